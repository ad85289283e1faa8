/- Several texts in one: RefDone, BnkWrite, BnkDo. -/
import Derived.Test.YthhoigkmmlkfcaaG04
import Derived.Test.YthhoigkmmlkfcaaG06
import Derived.Test.YthhoigkmmlkfcaaG07

/- Contract of the document's own 'done' of chapter 18: a request that is done. -/
namespace Go.Proofs.Ythhoigkmmlkfcaa.Words
set_option maxRecDepth 100000
open Go.RowKit
set_option linter.unusedVariables false
set_option linter.unusedSimpArgs false

/-- What done leaves: a state whose rows are of the call's own, but what was. -/
def DoneOut (w : World) (base : Nat) (v : Vs) (x' : Sta) (e : Ending) (w' : World) : Prop :=
  ∃ v', e = .returned (.agg (staL x' v').toArray) ∧ StaOwn w' base v' x' ∧ KeepS (fun j => v.ws.ownBlock = some j) w w' ∧ v'.table = v.table
/-- While done works: its three boxes, what the state's block holds (xb, vb), the rows (x, v). -/
structure DnS (w : World) (base : Nat) (v0 : Vs) (q : Rqs) (Z : List Value) (xb : Sta) (vb : Vs) (x : Sta) (v : Vs) (W : World) : Prop where
  bx : Box W w.heap.size (staL xb vb)
  bq : Box W (w.heap.size + 1) (rqsL q)
  bz : Box W (w.heap.size + 2) Z
  own : StaOwn W base v x
  keep : KeepS (fun j => v0.ws.ownBlock = some j) w W
  sz : w.heap.size + 3 ≤ W.heap.size
  hws : ∀ g, v0.ws.ownBlock = some g → g < w.heap.size
  hb : base ≤ w.heap.size
  pos : ∀ u ∈ vsL v, ∀ g, u.ownBlock = some g → g < w.heap.size ∨ w.heap.size + 3 ≤ g
  tb : v.table = v0.table
theorem sta_begun3 (x : Sta) (v : Vs) (q : Rqs) (base : Nat) (w : World) {W : World} (hv : StaOwn w base v x) (hb : base ≤ w.heap.size)
    (hW : W = ((w.alloc (.cells (staL x v).toArray 44)).alloc (.cells #[.bool q.store, .int .i64 q.op, .int .i64 q.addr, .int .i64 q.size, .int .u32 q.val, .int .i64 q.left, .int .i64 q.reg, .int .i64 q.tag] 54)).alloc (.cells Try.zeroCells44 44)) :
    DnS w base v q Try.zeroCells44.toList x v x v W := by
  subst hW
  have hk : Below w.heap.size w (((w.alloc (.cells (staL x v).toArray 44)).alloc (.cells #[.bool q.store, .int .i64 q.op, .int .i64 q.addr, .int .i64 q.size, .int .u32 q.val, .int .i64 q.left, .int .i64 q.reg, .int .i64 q.tag] 54)).alloc (.cells Try.zeroCells44 44)) := (((Below.refl _ _).alloc (Nat.le_refl _) _).alloc (by simp) _).alloc (by simp; omega) _
  have lt : ∀ u ∈ vsL v, ∀ g, u.ownBlock = some g → g < w.heap.size := by
    intro u hu g hg
    simp only [vsL, List.mem_cons, List.not_mem_nil, or_false] at hu
    rcases hu with rfl | rfl | rfl | rfl | rfl | rfl | rfl | rfl | rfl
    · exact (hv.ldq.lt g hg).2
    · exact (hv.sdq.lt g hg).2
    · exact (hv.aeq.lt g hg).2
    · exact (hv.abq.lt g hg).2
    · exact (hv.ebq.lt g hg).2
    · exact (hv.saq.lt g hg).2
    · exact (hv.table.lt g hg).2
    · exact (hv.mem.lt g hg).2
    · exact (hv.ws.lt g hg).2
  refine ⟨((Box.new w (staL x v) _).alloc _).alloc _, ?_, ?_, hv.below hk, KeepS.of_below hk, by simp, fun g hg => (hv.ws.lt g hg).2, hb, fun u hu g hg => .inl (lt u hu g hg), rfl⟩
  · have := (Box.new (w.alloc (.cells (staL x v).toArray 44)) (rqsL q) 54).alloc (.cells Try.zeroCells44 44)
    simpa [rqsL] using this
  · have := Box.new ((w.alloc (.cells (staL x v).toArray 44)).alloc (.cells #[.bool q.store, .int .i64 q.op, .int .i64 q.addr, .int .i64 q.size, .int .u32 q.val, .int .i64 q.left, .int .i64 q.reg, .int .i64 q.tag] 54)) Try.zeroCells44.toList 44
    simpa using this
section
variable {w W Y : World} {base : Nat} {v0 : Vs} {q : Rqs} {Z : List Value} {xb : Sta} {vb : Vs} {x : Sta} {v : Vs}
theorem DnS.below (h : DnS w base v0 q Z xb vb x v W) (hb : Below W.heap.size W Y) : DnS w base v0 q Z xb vb x v Y :=
  ⟨h.bx.below hb h.bx.lt, h.bq.below hb h.bq.lt, h.bz.below hb h.bz.lt, h.own.below hb, h.keep.trans (KeepS.of_below hb), Nat.le_trans h.sz hb.size, h.hws, h.hb, h.pos, h.tb⟩
theorem DnS.put (h : DnS w base v0 q Z xb vb x v W) {xc : Sta} {vc : Vs} (hx : Box Y w.heap.size (staL xc vc)) (hg : W.grownBy Y (some w.heap.size)) : DnS w base v0 q Z xc vc x v Y := by
  have hne : ∀ u ∈ vsL v, ∀ g, u.ownBlock = some g → ¬ (g = w.heap.size) := fun u hu g hg e => by have := h.pos u hu g hg; omega
  have hk : KeepS (fun j => j = w.heap.size) W Y := KeepS.of_grown hg (fun k e => by injection e with e; exact e.symm)
  refine ⟨hx, h.bq.grown hg (fun e => by injection e with e; omega), h.bz.grown hg (fun e => by injection e with e; omega), ⟨own_keepS h.own.ldq hk (fun g hg => hne _ (by simp [vsL]) g hg), own_keepS h.own.sdq hk (fun g hg => hne _ (by simp [vsL]) g hg), own_keepS h.own.aeq hk (fun g hg => hne _ (by simp [vsL]) g hg), own_keepS h.own.abq hk (fun g hg => hne _ (by simp [vsL]) g hg), own_keepS h.own.ebq hk (fun g hg => hne _ (by simp [vsL]) g hg), own_keepS h.own.saq hk (fun g hg => hne _ (by simp [vsL]) g hg), own_keepS h.own.table hk (fun g hg => hne _ (by simp [vsL]) g hg), own_keepS h.own.mem hk (fun g hg => hne _ (by simp [vsL]) g hg), own_keepS h.own.ws hk (fun g hg => hne _ (by simp [vsL]) g hg), h.own.words, h.own.bools⟩, ?_, Nat.le_trans h.sz hg.size, h.hws, h.hb, h.pos, h.tb⟩
  exact h.keep.newer ⟨hk.os, hk.tape, hk.output, hk.size, fun k h1 h2 => hk.block k h1 (fun e => h2 (by rw [e]; exact Nat.le_refl _))⟩
/-- A row that stands in place of another, in new memory. -/
theorem DnS.row_ldq (h : DnS w base v0 q Z xb vb x v W) {u : Value} {m : List Slt} (ho : W.ownsRow (w.heap.size + 3) 58 3 u m.length (flat sltL m)) : DnS w base v0 q Z xb vb { x with ldq := m } { v with ldq := u } W := by
  have hb := h.hb
  refine ⟨h.bx, h.bq, h.bz, ⟨own_less ho (by omega), h.own.sdq, h.own.aeq, h.own.abq, h.own.ebq, h.own.saq, h.own.table, h.own.mem, h.own.ws, h.own.words, h.own.bools⟩, h.keep, h.sz, h.hws, h.hb, fun y hy g hg => ?_, h.tb⟩
  simp only [vsL, List.mem_cons, List.not_mem_nil, or_false] at hy
  rcases hy with rfl | rfl | rfl | rfl | rfl | rfl | rfl | rfl | rfl
  · exact .inr (ho.lt g hg).1
  · exact h.pos _ (by simp [vsL]) g hg
  · exact h.pos _ (by simp [vsL]) g hg
  · exact h.pos _ (by simp [vsL]) g hg
  · exact h.pos _ (by simp [vsL]) g hg
  · exact h.pos _ (by simp [vsL]) g hg
  · exact h.pos _ (by simp [vsL]) g hg
  · exact h.pos _ (by simp [vsL]) g hg
  · exact h.pos _ (by simp [vsL]) g hg
theorem DnS.row_saq (h : DnS w base v0 q Z xb vb x v W) {u : Value} {m : List Ent} (ho : W.ownsRow (w.heap.size + 3) 66 5 u m.length (flat entL m)) : DnS w base v0 q Z xb vb { x with saq := m } { v with saq := u } W := by
  have hb := h.hb
  refine ⟨h.bx, h.bq, h.bz, ⟨h.own.ldq, h.own.sdq, h.own.aeq, h.own.abq, h.own.ebq, own_less ho (by omega), h.own.table, h.own.mem, h.own.ws, h.own.words, h.own.bools⟩, h.keep, h.sz, h.hws, h.hb, fun y hy g hg => ?_, h.tb⟩
  simp only [vsL, List.mem_cons, List.not_mem_nil, or_false] at hy
  rcases hy with rfl | rfl | rfl | rfl | rfl | rfl | rfl | rfl | rfl
  · exact h.pos _ (by simp [vsL]) g hg
  · exact h.pos _ (by simp [vsL]) g hg
  · exact h.pos _ (by simp [vsL]) g hg
  · exact h.pos _ (by simp [vsL]) g hg
  · exact h.pos _ (by simp [vsL]) g hg
  · exact .inr (ho.lt g hg).1
  · exact h.pos _ (by simp [vsL]) g hg
  · exact h.pos _ (by simp [vsL]) g hg
  · exact h.pos _ (by simp [vsL]) g hg
theorem DnS.row_mem (h : DnS w base v0 q Z xb vb x v W) {u : Value} {m : List Int} (ho : W.ownsRow (w.heap.size + 3) 5 1 u m.length (bytesL m)) : DnS w base v0 q Z xb vb { x with mem := m } { v with mem := u } W := by
  have hb := h.hb
  refine ⟨h.bx, h.bq, h.bz, ⟨h.own.ldq, h.own.sdq, h.own.aeq, h.own.abq, h.own.ebq, h.own.saq, h.own.table, own_less ho (by omega), h.own.ws, h.own.words, h.own.bools⟩, h.keep, h.sz, h.hws, h.hb, fun y hy g hg => ?_, h.tb⟩
  simp only [vsL, List.mem_cons, List.not_mem_nil, or_false] at hy
  rcases hy with rfl | rfl | rfl | rfl | rfl | rfl | rfl | rfl | rfl
  · exact h.pos _ (by simp [vsL]) g hg
  · exact h.pos _ (by simp [vsL]) g hg
  · exact h.pos _ (by simp [vsL]) g hg
  · exact h.pos _ (by simp [vsL]) g hg
  · exact h.pos _ (by simp [vsL]) g hg
  · exact h.pos _ (by simp [vsL]) g hg
  · exact h.pos _ (by simp [vsL]) g hg
  · exact .inr (ho.lt g hg).1
  · exact h.pos _ (by simp [vsL]) g hg
theorem DnS.row_ws (h : DnS w base v0 q Z xb vb x v W) {u : Value} {m : List Wr} (ho : W.ownsRow (w.heap.size + 3) 68 3 u m.length (wsL m)) : DnS w base v0 q Z xb vb { x with ws := m } { v with ws := u } W := by
  have hb := h.hb
  refine ⟨h.bx, h.bq, h.bz, ⟨h.own.ldq, h.own.sdq, h.own.aeq, h.own.abq, h.own.ebq, h.own.saq, h.own.table, h.own.mem, own_less ho (by omega), h.own.words, h.own.bools⟩, h.keep, h.sz, h.hws, h.hb, fun y hy g hg => ?_, h.tb⟩
  simp only [vsL, List.mem_cons, List.not_mem_nil, or_false] at hy
  rcases hy with rfl | rfl | rfl | rfl | rfl | rfl | rfl | rfl | rfl
  · exact h.pos _ (by simp [vsL]) g hg
  · exact h.pos _ (by simp [vsL]) g hg
  · exact h.pos _ (by simp [vsL]) g hg
  · exact h.pos _ (by simp [vsL]) g hg
  · exact h.pos _ (by simp [vsL]) g hg
  · exact h.pos _ (by simp [vsL]) g hg
  · exact h.pos _ (by simp [vsL]) g hg
  · exact h.pos _ (by simp [vsL]) g hg
  · exact .inr (ho.lt g hg).1
/-- A write more, in place or in new memory. -/
theorem DnS.app_ws (h : DnS w base v0 q Z xb vb x v W) (hv : v.ws = v0.ws) {u : Value} {m : List Wr} (ho : Y.ownsRow base 68 3 u m.length (wsL m)) (hg : W.grownBy Y v.ws.ownBlock) (hn : ∀ g, u.ownBlock = some g → v.ws.ownBlock = some g ∨ W.heap.size ≤ g) :
    DnS w base v0 q Z xb vb { x with ws := m } { v with ws := u } Y := by
  have hsz := h.sz
  have hb := h.hb
  have hne : ∀ b, w.heap.size ≤ b → some b ≠ v.ws.ownBlock := fun b hb e => by have := h.hws b (by rw [← hv]; exact e.symm); omega
  refine ⟨h.bx.grown hg (hne _ (Nat.le_refl _)), h.bq.grown hg (hne _ (by omega)), h.bz.grown hg (hne _ (by omega)), ⟨h.own.ldq.kept hg (own_apart2 h.own.ldq h.own.ws (by decide)), h.own.sdq.kept hg (own_apart2 h.own.sdq h.own.ws (by decide)), h.own.aeq.kept hg (own_apart2 h.own.aeq h.own.ws (by decide)), h.own.abq.kept hg (own_apart2 h.own.abq h.own.ws (by decide)), h.own.ebq.kept hg (own_apart2 h.own.ebq h.own.ws (by decide)), h.own.saq.kept hg (own_apart2 h.own.saq h.own.ws (by decide)), h.own.table.kept hg (own_apart2 h.own.table h.own.ws (by decide)), h.own.mem.kept hg (own_apart2 h.own.mem h.own.ws (by decide)), ho, h.own.words, h.own.bools⟩, ?_, Nat.le_trans h.sz hg.size, h.hws, h.hb, fun y hy g hg2 => ?_, h.tb⟩
  · exact h.keep.trans (KeepS.of_grown hg (fun k e => by rw [← hv]; exact e))
  · simp only [vsL, List.mem_cons, List.not_mem_nil, or_false] at hy
    rcases hy with rfl | rfl | rfl | rfl | rfl | rfl | rfl | rfl | rfl
    · exact h.pos _ (by simp [vsL]) g hg2
    · exact h.pos _ (by simp [vsL]) g hg2
    · exact h.pos _ (by simp [vsL]) g hg2
    · exact h.pos _ (by simp [vsL]) g hg2
    · exact h.pos _ (by simp [vsL]) g hg2
    · exact h.pos _ (by simp [vsL]) g hg2
    · exact h.pos _ (by simp [vsL]) g hg2
    · exact h.pos _ (by simp [vsL]) g hg2
    · rcases hn g hg2 with e | e
      · exact .inl (h.hws g (by rw [← hv]; exact e))
      · exact .inr (by omega)
theorem DnS.out (h : DnS w base v0 q Z xb vb x v W) (hg : W.grownBy Y (some (w.heap.size + 2))) (hc : staL x v = staL xb vb) : DoneOut w base v0 x (.returned (.agg (staL xb vb).toArray)) Y := by
  have hne : ∀ u ∈ vsL v, ∀ g, u.ownBlock = some g → ¬ (g = w.heap.size + 2) := fun u hu g hg e => by have := h.pos u hu g hg; omega
  have hk : KeepS (fun j => j = w.heap.size + 2) W Y := KeepS.of_grown hg (fun k e => by injection e with e; exact e.symm)
  refine ⟨v, by rw [hc], ⟨own_keepS h.own.ldq hk (fun g hg => hne _ (by simp [vsL]) g hg), own_keepS h.own.sdq hk (fun g hg => hne _ (by simp [vsL]) g hg), own_keepS h.own.aeq hk (fun g hg => hne _ (by simp [vsL]) g hg), own_keepS h.own.abq hk (fun g hg => hne _ (by simp [vsL]) g hg), own_keepS h.own.ebq hk (fun g hg => hne _ (by simp [vsL]) g hg), own_keepS h.own.saq hk (fun g hg => hne _ (by simp [vsL]) g hg), own_keepS h.own.table hk (fun g hg => hne _ (by simp [vsL]) g hg), own_keepS h.own.mem hk (fun g hg => hne _ (by simp [vsL]) g hg), own_keepS h.own.ws hk (fun g hg => hne _ (by simp [vsL]) g hg), h.own.words, h.own.bools⟩, ?_, h.tb⟩
  exact h.keep.newer ⟨hk.os, hk.tape, hk.output, hk.size, fun k h1 h2 => hk.block k h1 (fun e => h2 (by rw [e]; omega))⟩
end
theorem row_tail5 {w : World} {B n c g o : Nat} {x : Ent} {r : List Ent} (h : Row w B 5 (.slice (some ⟨g, o, none⟩) (n + 1) c) (n + 1) (flat entL (x :: r))) : Row w B 5 (.slice (some ⟨g, o + 5, none⟩) n (c - 1)) n (flat entL r) := by
  obtain ⟨h1, h2⟩ := h.cap
  obtain ⟨g', o', e, hb, hc⟩ := h.at_ (by omega)
  simp only [Option.some.injEq, Addr.mk.injEq, and_true] at e
  obtain ⟨rfl, rfl⟩ := e
  have hl := h.len
  rw [flat_cons] at hl hc
  rw [List.length_append, entL_len] at hl
  refine ⟨by omega, _, _, rfl, by omega, by omega, (fun e => by cases e), fun _ => ⟨g, o + 5, rfl, hb, fun j u hu => ?_⟩⟩
  have := hc (5 + j) u (by rw [List.getElem?_append_right (by rw [entL_len]; omega), entL_len, show 5 + j - 5 = j by omega]; exact hu)
  rwa [← Nat.add_assoc] at this
theorem wrL_one (x : Wr) : ∀ u ∈ wrL x, u.oneCell' = true := by
  intro u hu; simp only [wrL, List.mem_cons, List.not_mem_nil, or_false] at hu; rcases hu with rfl | rfl | rfl <;> rfl
theorem wsL_snoc (l : List Wr) (x : Wr) : wsL (l ++ [x]) = wsL l ++ wrL x := by rw [wsL_append]; simp [wsL]

set_option maxHeartbeats 4000000 in
theorem refDone_store_nil (x : Sta) (v : Vs) (q : Rqs) (base : Nat) (w : World) (hx : x.Ok) (hv : StaOwn w base v x) (hb : base ≤ w.heap.size) (hs : StaFew x) (hm : ∀ b ∈ x.mem, 0 ≤ b ∧ b ≤ 255) (hq : q.Fits) (h : q.store = true) (h5 : x.saq = []) :
    Calls Try.prog 32 #[.agg (staL x v).toArray, .agg #[.bool q.store, .int .i64 q.op, .int .i64 q.addr, .int .i64 q.size, .int .u32 q.val, .int .i64 q.left, .int .i64 q.reg, .int .i64 q.tag]] w (DoneOut w base v (doneZ x q)) := by
  rw [done_store h]
  rw [show x.saq.tail = x.saq by rw [h5]; rfl]
  obtain ⟨W, hW⟩ : ∃ W, W = ((w.alloc (.cells (staL x v).toArray 44)).alloc (.cells #[.bool q.store, .int .i64 q.op, .int .i64 q.addr, .int .i64 q.size, .int .u32 q.val, .int .i64 q.left, .int .i64 q.reg, .int .i64 q.tag] 54)).alloc (.cells Try.zeroCells44 44) := ⟨_, rfl⟩
  have hD := sta_begun3 x v q base w hv hb hW
  obtain ⟨Z, hZ⟩ : ∃ Z, Z = Try.zeroCells44.toList := ⟨_, rfl⟩
  rw [← hZ] at hD
  have HZ : Hid (Z.length = 92) := by rw [hZ]; exact (by rw [Array.length_toList]; exact zero_size : Try.zeroCells44.toList.length = 92)
  clear hZ
  have D0 := Lib.hid hD
  have s1 : W.cell? ⟨w.heap.size + 1, 0, none⟩ = some (.bool true) := by rw [← h]; exact hD.bq.cell rfl
  rw [h] at hW ⊢
  have s3 : W.cell? ⟨w.heap.size + 1, 2, none⟩ = some (.int .i64 q.addr) := hD.bq.cell rfl
  have s4 : W.cell? ⟨w.heap.size + 1, 3, none⟩ = some (.int .i64 q.size) := hD.bq.cell rfl
  have s5 : W.cell? ⟨w.heap.size + 1, 4, none⟩ = some (.int .u32 q.val) := hD.bq.cell rfl
  have hsz := hD.sz
  have HX := Lib.hid hx
  have HS := Lib.hid hs
  have HQ := Lib.hid hq
  have HM := Lib.hid hm
  clear hx hs hq hv hD
  obtain ⟨A7, c7, e7⟩ := (Row.of_own D0.out.own.mem).form
  obtain ⟨A8, c8, e8⟩ := (Row.of_own D0.out.own.ws).form
  obtain ⟨A5, c5, e5⟩ := (Row.of_own D0.out.own.saq).form
  rw [h5, List.length_nil] at e5
  have H5 := Lib.hid h5
  clear h5
  obtain ⟨iw, hiw, q0, q1, q2⟩ := parts_wri
  have HIw := Lib.hid hiw
  have HAw := Lib.hid q0
  have HBw := Lib.hid q1
  have HCw := Lib.hid q2
  clear hiw q0 q1 q2
  obtain ⟨ie, hie, q0, q1, q2⟩ := parts_ent
  have HIe := Lib.hid hie
  have HAe := Lib.hid q0
  have HBe := Lib.hid q1
  have HCe := Lib.hid q2
  clear hie q0 q1 q2
  obtain ⟨W1, hW1⟩ : ∃ W1, W1 = W.alloc (.cells #[.int .i64 q.addr, .int .i64 q.size, .int .u32 q.val] 68) := ⟨_, rfl⟩
  have hb1 : Below W.heap.size W W1 := by rw [hW1]; exact (Below.refl _ _).alloc (Nat.le_refl _) _
  have D1 := Lib.hid (D0.out.below hb1)
  have X1 : Hid (Box W1 W.heap.size (wrL ⟨q.addr, q.size, q.val⟩)) := by rw [hW1]; exact Box.new W (wrL ⟨q.addr, q.size, q.val⟩) _
  have t0 : W1.cell? ⟨W.heap.size, 0, none⟩ = some (.int .i64 q.addr) := X1.out.cell rfl
  have t1 : W1.cell? ⟨W.heap.size, 1, none⟩ = some (.int .i64 q.size) := X1.out.cell rfl
  have t2 : W1.cell? ⟨W.heap.size, 2, none⟩ = some (.int .u32 q.val) := X1.out.cell rfl
  have t3 := D1.out.bx.cell (sta_mem HX.out)
  rw [e7] at t3
  clear hb1
  go_enter Try.func32, Try.ntmps32
  go_wp2_with (first | (rw [← hW]; clear hW) | (rw [← hW1]; clear hW1))
  refine (refStore_any A7 c7 x.mem.length x.mem q.val W1 q.size q.addr (by have h9 := Row.of_own D1.out.own.mem; rw [e7] at h9; exact h9) (by have := HS.out.mem; omega) HQ.out.2.2.1 HQ.out.2.1 HQ.out.2.2.2.1).mono ?_
  rintro e y1 ⟨u1, rfl, o1, b1⟩
  have D2 := Lib.hid ((D1.out.below b1).row_mem (m := storeZ x.mem q.size q.addr q.val) (u := u1) (by rw [storeZ_len]; exact own_less o1 D1.out.sz))
  have X2 := Lib.hid (X1.out.below b1 X1.out.lt)
  obtain ⟨B1, k1, rfl⟩ := (Row.of_own o1).form
  have hz2 := D2.out.bx.lt
  clear o1 b1 t0 t1 t2 t3
  have hz2 := D2.out.bx.lt
  obtain ⟨y1s, hy1s⟩ : ∃ y1s, y1s = y1.heap.size := ⟨_, rfl⟩
  clear hy1s
  go_wp2_with (first
    | (refine wpList_put_cell rfl 39 _ _ rfl w.heap.size 84 (.slice B1 x.mem.length k1) rfl rfl rfl _ D2.out.bx (by rw [staL_len HX.out]; omega) (by kernel_rfl) ?_; intro y2 hbx hg; rw [set_mem HX.out] at hbx; have D3 := Lib.hid (D2.out.put hbx hg); have X3 := Lib.hid (X2.out.grown hg (fun e => by injection e with e; omega)); have t0 : y2.cell? ⟨W.heap.size, 0, none⟩ = some (.int .i64 q.addr) := X3.out.cell rfl; have t1 : y2.cell? ⟨W.heap.size, 1, none⟩ = some (.int .i64 q.size) := X3.out.cell rfl; have t2 : y2.cell? ⟨W.heap.size, 2, none⟩ = some (.int .u32 q.val) := X3.out.cell rfl; have t3 := D3.out.bx.cell (sta_ws HX.out); dsimp only at t3; rw [e8] at t3; have hz3 := X3.out.lt; have D4 := Lib.hid (D3.out.below ((Below.refl y2.heap.size y2).alloc (Nat.le_refl _) (.cells #[.int .i64 q.addr, .int .i64 q.size, .int .u32 q.val] 68))); have R4 := Lib.hid (row_new y2 (wrL ⟨q.addr, q.size, q.val⟩) 3 rfl (by omega) 68); clear hbx hg)
    | (refine wpList_append_new _ rfl (.tmp 22) (.tmp 24) 40 rfl base 68 iw _ 3 24 Try.underlying40 HIw.out HAw.out HBw.out HCw.out rfl (by omega) (.slice A8 x.ws.length c8) x.ws.length (wsL x.ws) rfl (by have h9 := D4.out.own.ws; dsimp only at h9; rw [e8] at h9; exact h9) _ (.slice (some ⟨y2.heap.size, 0, none⟩) 1 1) 1 (wrL ⟨q.addr, q.size, q.val⟩) rfl R4.out (wrL_one _) (by unfold maxLen; have := HS.out.ws; omega) (by have := HS.out.ws; omega) (by simp; omega) ?_; intro u2 y3 hO hg hn2; obtain ⟨B2, k2, rfl⟩ := (Row.of_own hO).form; have X5 := Lib.hid (D4.out.app_ws (m := x.ws ++ [⟨q.addr, q.size, q.val⟩]) rfl (by rw [List.length_append, wsL_snoc]; exact hO) (by dsimp only; rw [e8]; exact hg) (by dsimp only; rw [e8]; exact hn2)); have hz4 := X5.out.bx.lt; clear hO hg hn2 t0 t1 t2 t3)
    | (refine wpList_put_cell rfl 40 _ _ rfl w.heap.size 85 (.slice B2 (x.ws.length + 1) k2) rfl rfl rfl _ X5.out.bx (by rw [staL_len HX.out]; omega) (by kernel_rfl) ?_; intro y4 hbx hg; rw [set_ws HX.out] at hbx; have D6 := Lib.hid (X5.out.put hbx hg); have t3 := D6.out.bx.cell (sta_saq HX.out); dsimp only at t3; rw [e5] at t3; have hz5 := D6.out.bx.lt; clear hbx hg)
    | (refine wpList_load_box rfl 44 (.tmp 2) rfl w.heap.size 0 rfl (staL x { v with mem := .slice B1 x.mem.length k1, ws := .slice B2 (x.ws.length + 1) k2 }) (staL x { v with mem := .slice B1 x.mem.length k1, ws := .slice B2 (x.ws.length + 1) k2 }) D6.out.bx (fun j u hu => by rw [Nat.zero_add]; exact hu) _ Try.underlying44 rfl 92 sta_size (staL_len HX.out) ?_)
    | (refine wpList_store_box rfl 44 (.tmp 4) (.tmp 36) rfl (w.heap.size + 2) 0 (staL x { v with mem := .slice B1 x.mem.length k1, ws := .slice B2 (x.ws.length + 1) k2 }) rfl rfl Z D6.out.bz (by rw [HZ.out, staL_len HX.out]; exact Nat.le_refl _) 92 sta_size (staL_len HX.out) D6.out.own.one ?_; intro w9 hb9 hg9; rw [splice_whole _ _ (by rw [HZ.out, staL_len HX.out])] at hb9; have X9 := Lib.hid hb9; have G9 := Lib.hid hg9; clear hb9 hg9))
  exact bodyPost_ret (v := .agg (staL x { v with mem := .slice B1 x.mem.length k1, ws := .slice B2 (x.ws.length + 1) k2 }).toArray) (results_cell Try.results32 _ _ _ ⟨w.heap.size + 2, 0, none⟩ _ rfl (load_sta HX.out X9.out)) rfl (D6.out.out G9.out rfl)

set_option maxHeartbeats 4000000 in
theorem refDone_store_one (x : Sta) (v : Vs) (q : Rqs) (base : Nat) (w : World) (hx : x.Ok) (hv : StaOwn w base v x) (hb : base ≤ w.heap.size) (hs : StaFew x) (hm : ∀ b ∈ x.mem, 0 ≤ b ∧ b ≤ 255) (hq : q.Fits) (h : q.store = true) (e0 : Ent) (r : List Ent) (h5 : x.saq = e0 :: r) (A5 : Option Addr) (e5 : v.saq = .slice A5 x.saq.length 1) :
    Calls Try.prog 32 #[.agg (staL x v).toArray, .agg #[.bool q.store, .int .i64 q.op, .int .i64 q.addr, .int .i64 q.size, .int .u32 q.val, .int .i64 q.left, .int .i64 q.reg, .int .i64 q.tag]] w (DoneOut w base v (doneZ x q)) := by
  rw [done_store h]
  have htl : x.saq.tail = r := by rw [h5]; rfl
  rw [htl]
  obtain ⟨W, hW⟩ : ∃ W, W = ((w.alloc (.cells (staL x v).toArray 44)).alloc (.cells #[.bool q.store, .int .i64 q.op, .int .i64 q.addr, .int .i64 q.size, .int .u32 q.val, .int .i64 q.left, .int .i64 q.reg, .int .i64 q.tag] 54)).alloc (.cells Try.zeroCells44 44) := ⟨_, rfl⟩
  have hD := sta_begun3 x v q base w hv hb hW
  obtain ⟨Z, hZ⟩ : ∃ Z, Z = Try.zeroCells44.toList := ⟨_, rfl⟩
  rw [← hZ] at hD
  have HZ : Hid (Z.length = 92) := by rw [hZ]; exact (by rw [Array.length_toList]; exact zero_size : Try.zeroCells44.toList.length = 92)
  clear hZ
  have D0 := Lib.hid hD
  have s1 : W.cell? ⟨w.heap.size + 1, 0, none⟩ = some (.bool true) := by rw [← h]; exact hD.bq.cell rfl
  rw [h] at hW ⊢
  have s3 : W.cell? ⟨w.heap.size + 1, 2, none⟩ = some (.int .i64 q.addr) := hD.bq.cell rfl
  have s4 : W.cell? ⟨w.heap.size + 1, 3, none⟩ = some (.int .i64 q.size) := hD.bq.cell rfl
  have s5 : W.cell? ⟨w.heap.size + 1, 4, none⟩ = some (.int .u32 q.val) := hD.bq.cell rfl
  have hsz := hD.sz
  have HX := Lib.hid hx
  have HS := Lib.hid hs
  have HQ := Lib.hid hq
  have HM := Lib.hid hm
  clear hx hs hq hv hD
  obtain ⟨A7, c7, e7⟩ := (Row.of_own D0.out.own.mem).form
  obtain ⟨A8, c8, e8⟩ := (Row.of_own D0.out.own.ws).form
  obtain ⟨n5, hn5⟩ : ∃ n5, n5 = r.length := ⟨_, rfl⟩
  have hl5 : x.saq.length = n5 + 1 := by rw [h5, hn5]; rfl
  have hs5 := HS.out.saq
  have hr5 := Row.of_own D0.out.own.saq
  rw [e5] at hr5
  have hcap5 := hr5.cap
  obtain ⟨g5, o5, hA5, _, _⟩ := hr5.at_ (by omega)
  subst hA5
  rw [hl5] at e5 hcap5 hs5
  have HN5 := Lib.hid hn5
  have hn0 : n5 = 0 := by omega
  subst hn0
  have hr0 : r = [] := List.eq_nil_of_length_eq_zero HN5.out.symm
  subst hr0
  have HRT : Hid (∀ (y : World), Row y y.heap.size 5 v.saq x.saq.length (flat entL x.saq) → Row y y.heap.size 5 (.slice (some ⟨g5, o5, none⟩) 0 0) 0 (flat entL [])) := fun y h9 => ⟨rfl, _, _, rfl, Nat.le_refl _, by omega, (fun _ => rfl), fun h => absurd rfl h⟩
  have H5 := Lib.hid h5
  clear hr5 hn5 hl5 htl h5
  obtain ⟨iw, hiw, q0, q1, q2⟩ := parts_wri
  have HIw := Lib.hid hiw
  have HAw := Lib.hid q0
  have HBw := Lib.hid q1
  have HCw := Lib.hid q2
  clear hiw q0 q1 q2
  obtain ⟨ie, hie, q0, q1, q2⟩ := parts_ent
  have HIe := Lib.hid hie
  have HAe := Lib.hid q0
  have HBe := Lib.hid q1
  have HCe := Lib.hid q2
  clear hie q0 q1 q2
  obtain ⟨W1, hW1⟩ : ∃ W1, W1 = W.alloc (.cells #[.int .i64 q.addr, .int .i64 q.size, .int .u32 q.val] 68) := ⟨_, rfl⟩
  have hb1 : Below W.heap.size W W1 := by rw [hW1]; exact (Below.refl _ _).alloc (Nat.le_refl _) _
  have D1 := Lib.hid (D0.out.below hb1)
  have X1 : Hid (Box W1 W.heap.size (wrL ⟨q.addr, q.size, q.val⟩)) := by rw [hW1]; exact Box.new W (wrL ⟨q.addr, q.size, q.val⟩) _
  have t0 : W1.cell? ⟨W.heap.size, 0, none⟩ = some (.int .i64 q.addr) := X1.out.cell rfl
  have t1 : W1.cell? ⟨W.heap.size, 1, none⟩ = some (.int .i64 q.size) := X1.out.cell rfl
  have t2 : W1.cell? ⟨W.heap.size, 2, none⟩ = some (.int .u32 q.val) := X1.out.cell rfl
  have t3 := D1.out.bx.cell (sta_mem HX.out)
  rw [e7] at t3
  clear hb1
  go_enter Try.func32, Try.ntmps32
  go_wp2_with (first | (rw [← hW]; clear hW) | (rw [← hW1]; clear hW1))
  refine (refStore_any A7 c7 x.mem.length x.mem q.val W1 q.size q.addr (by have h9 := Row.of_own D1.out.own.mem; rw [e7] at h9; exact h9) (by have := HS.out.mem; omega) HQ.out.2.2.1 HQ.out.2.1 HQ.out.2.2.2.1).mono ?_
  rintro e y1 ⟨u1, rfl, o1, b1⟩
  have D2 := Lib.hid ((D1.out.below b1).row_mem (m := storeZ x.mem q.size q.addr q.val) (u := u1) (by rw [storeZ_len]; exact own_less o1 D1.out.sz))
  have X2 := Lib.hid (X1.out.below b1 X1.out.lt)
  obtain ⟨B1, k1, rfl⟩ := (Row.of_own o1).form
  have hz2 := D2.out.bx.lt
  clear o1 b1 t0 t1 t2 t3
  have hz2 := D2.out.bx.lt
  obtain ⟨y1s, hy1s⟩ : ∃ y1s, y1s = y1.heap.size := ⟨_, rfl⟩
  clear hy1s
  go_wp2_with (first
    | (refine wpList_put_cell rfl 39 _ _ rfl w.heap.size 84 (.slice B1 x.mem.length k1) rfl rfl rfl _ D2.out.bx (by rw [staL_len HX.out]; omega) (by kernel_rfl) ?_; intro y2 hbx hg; rw [set_mem HX.out] at hbx; have D3 := Lib.hid (D2.out.put hbx hg); have X3 := Lib.hid (X2.out.grown hg (fun e => by injection e with e; omega)); have t0 : y2.cell? ⟨W.heap.size, 0, none⟩ = some (.int .i64 q.addr) := X3.out.cell rfl; have t1 : y2.cell? ⟨W.heap.size, 1, none⟩ = some (.int .i64 q.size) := X3.out.cell rfl; have t2 : y2.cell? ⟨W.heap.size, 2, none⟩ = some (.int .u32 q.val) := X3.out.cell rfl; have t3 := D3.out.bx.cell (sta_ws HX.out); dsimp only at t3; rw [e8] at t3; have hz3 := X3.out.lt; have D4 := Lib.hid (D3.out.below ((Below.refl y2.heap.size y2).alloc (Nat.le_refl _) (.cells #[.int .i64 q.addr, .int .i64 q.size, .int .u32 q.val] 68))); have R4 := Lib.hid (row_new y2 (wrL ⟨q.addr, q.size, q.val⟩) 3 rfl (by omega) 68); clear hbx hg)
    | (refine wpList_append_new _ rfl (.tmp 22) (.tmp 24) 40 rfl base 68 iw _ 3 24 Try.underlying40 HIw.out HAw.out HBw.out HCw.out rfl (by omega) (.slice A8 x.ws.length c8) x.ws.length (wsL x.ws) rfl (by have h9 := D4.out.own.ws; dsimp only at h9; rw [e8] at h9; exact h9) _ (.slice (some ⟨y2.heap.size, 0, none⟩) 1 1) 1 (wrL ⟨q.addr, q.size, q.val⟩) rfl R4.out (wrL_one _) (by unfold maxLen; have := HS.out.ws; omega) (by have := HS.out.ws; omega) (by simp; omega) ?_; intro u2 y3 hO hg hn2; obtain ⟨B2, k2, rfl⟩ := (Row.of_own hO).form; have X5 := Lib.hid (D4.out.app_ws (m := x.ws ++ [⟨q.addr, q.size, q.val⟩]) rfl (by rw [List.length_append, wsL_snoc]; exact hO) (by dsimp only; rw [e8]; exact hg) (by dsimp only; rw [e8]; exact hn2)); have hz4 := X5.out.bx.lt; clear hO hg hn2 t0 t1 t2 t3)
    | (refine wpList_put_cell rfl 40 _ _ rfl w.heap.size 85 (.slice B2 (x.ws.length + 1) k2) rfl rfl rfl _ X5.out.bx (by rw [staL_len HX.out]; omega) (by kernel_rfl) ?_; intro y4 hbx hg; rw [set_ws HX.out] at hbx; have D6 := Lib.hid (X5.out.put hbx hg); have t3 := D6.out.bx.cell (sta_saq HX.out); dsimp only at t3; rw [e5] at t3; have hz5 := D6.out.bx.lt; clear hbx hg)
    | (refine wpList_append_new _ rfl (.const (.slice none 0 0)) (.tmp 33) 37 rfl (w.heap.size + 3) 66 ie _ 5 32 Try.underlying37 HIe.out HAe.out HBe.out HCe.out rfl (by omega) (.slice none 0 0) 0 [] rfl (World.ownsRow_nil _ _ _ _) _ (.slice (some ⟨g5, o5, none⟩) 0 0) 0 (flat entL ([] : List Ent)) rfl (HRT.out y4 (by have h9 := Row.of_own D6.out.own.saq; dsimp only at h9; exact h9)) (flat_oneC entL_one _) (by unfold maxLen; omega) (by omega) (by have := D6.out.sz; omega) ?_; intro u3 y5 hO hg hn2; rw [List.nil_append] at hO; obtain ⟨B3, k3, hv3⟩ := (Row.of_own hO).form; rw [Nat.zero_add] at hO hv3; subst hv3; have D7 := Lib.hid ((D6.out.below (Below.grown (Below.refl _ _) hg (Nat.le_refl _) (fun q hq => by cases hq))).row_saq (m := []) (by exact hO)); have hz6 := D7.out.bx.lt; clear hO hg hn2 t3)
    | (refine wpList_put_cell rfl 37 _ _ rfl w.heap.size 82 (.slice B3 0 k3) rfl rfl rfl _ D7.out.bx (by rw [staL_len HX.out]; omega) (by kernel_rfl) ?_; intro y6 hbx hg; rw [set_saq HX.out] at hbx; have D8 := Lib.hid (D7.out.put hbx hg); clear hbx hg)
    | (refine wpList_load_box rfl 44 (.tmp 2) rfl w.heap.size 0 rfl (staL x { v with mem := .slice B1 x.mem.length k1, ws := .slice B2 (x.ws.length + 1) k2, saq := .slice B3 0 k3 }) (staL x { v with mem := .slice B1 x.mem.length k1, ws := .slice B2 (x.ws.length + 1) k2, saq := .slice B3 0 k3 }) D8.out.bx (fun j u hu => by rw [Nat.zero_add]; exact hu) _ Try.underlying44 rfl 92 sta_size (staL_len HX.out) ?_)
    | (refine wpList_store_box rfl 44 (.tmp 4) (.tmp 36) rfl (w.heap.size + 2) 0 (staL x { v with mem := .slice B1 x.mem.length k1, ws := .slice B2 (x.ws.length + 1) k2, saq := .slice B3 0 k3 }) rfl rfl Z D8.out.bz (by rw [HZ.out, staL_len HX.out]; exact Nat.le_refl _) 92 sta_size (staL_len HX.out) D8.out.own.one ?_; intro w9 hb9 hg9; rw [splice_whole _ _ (by rw [HZ.out, staL_len HX.out])] at hb9; have X9 := Lib.hid hb9; have G9 := Lib.hid hg9; clear hb9 hg9))
  exact bodyPost_ret (v := .agg (staL x { v with mem := .slice B1 x.mem.length k1, ws := .slice B2 (x.ws.length + 1) k2, saq := .slice B3 0 k3 }).toArray) (results_cell Try.results32 _ _ _ ⟨w.heap.size + 2, 0, none⟩ _ rfl (load_sta HX.out X9.out)) rfl (D8.out.out G9.out rfl)

set_option maxHeartbeats 4000000 in
theorem refDone_store_more (x : Sta) (v : Vs) (q : Rqs) (base : Nat) (w : World) (hx : x.Ok) (hv : StaOwn w base v x) (hb : base ≤ w.heap.size) (hs : StaFew x) (hm : ∀ b ∈ x.mem, 0 ≤ b ∧ b ≤ 255) (hq : q.Fits) (h : q.store = true) (e0 : Ent) (r : List Ent) (h5 : x.saq = e0 :: r) (A5 : Option Addr) (c5 : Nat) (e5 : v.saq = .slice A5 x.saq.length c5) (hc5 : 1 < c5) :
    Calls Try.prog 32 #[.agg (staL x v).toArray, .agg #[.bool q.store, .int .i64 q.op, .int .i64 q.addr, .int .i64 q.size, .int .u32 q.val, .int .i64 q.left, .int .i64 q.reg, .int .i64 q.tag]] w (DoneOut w base v (doneZ x q)) := by
  rw [done_store h]
  have htl : x.saq.tail = r := by rw [h5]; rfl
  rw [htl]
  obtain ⟨W, hW⟩ : ∃ W, W = ((w.alloc (.cells (staL x v).toArray 44)).alloc (.cells #[.bool q.store, .int .i64 q.op, .int .i64 q.addr, .int .i64 q.size, .int .u32 q.val, .int .i64 q.left, .int .i64 q.reg, .int .i64 q.tag] 54)).alloc (.cells Try.zeroCells44 44) := ⟨_, rfl⟩
  have hD := sta_begun3 x v q base w hv hb hW
  obtain ⟨Z, hZ⟩ : ∃ Z, Z = Try.zeroCells44.toList := ⟨_, rfl⟩
  rw [← hZ] at hD
  have HZ : Hid (Z.length = 92) := by rw [hZ]; exact (by rw [Array.length_toList]; exact zero_size : Try.zeroCells44.toList.length = 92)
  clear hZ
  have D0 := Lib.hid hD
  have s1 : W.cell? ⟨w.heap.size + 1, 0, none⟩ = some (.bool true) := by rw [← h]; exact hD.bq.cell rfl
  rw [h] at hW ⊢
  have s3 : W.cell? ⟨w.heap.size + 1, 2, none⟩ = some (.int .i64 q.addr) := hD.bq.cell rfl
  have s4 : W.cell? ⟨w.heap.size + 1, 3, none⟩ = some (.int .i64 q.size) := hD.bq.cell rfl
  have s5 : W.cell? ⟨w.heap.size + 1, 4, none⟩ = some (.int .u32 q.val) := hD.bq.cell rfl
  have hsz := hD.sz
  have HX := Lib.hid hx
  have HS := Lib.hid hs
  have HQ := Lib.hid hq
  have HM := Lib.hid hm
  clear hx hs hq hv hD
  obtain ⟨A7, c7, e7⟩ := (Row.of_own D0.out.own.mem).form
  obtain ⟨A8, c8, e8⟩ := (Row.of_own D0.out.own.ws).form
  obtain ⟨n5, hn5⟩ : ∃ n5, n5 = r.length := ⟨_, rfl⟩
  have hl5 : x.saq.length = n5 + 1 := by rw [h5, hn5]; rfl
  have hs5 := HS.out.saq
  have hr5 := Row.of_own D0.out.own.saq
  rw [e5] at hr5
  have hcap5 := hr5.cap
  obtain ⟨g5, o5, hA5, _, _⟩ := hr5.at_ (by omega)
  subst hA5
  rw [hl5] at e5 hcap5 hs5
  have HN5 := Lib.hid hn5
  have HRT : Hid (∀ (y : World), Row y y.heap.size 5 v.saq x.saq.length (flat entL x.saq) → Row y y.heap.size 5 (.slice (some ⟨g5, o5 + 5, none⟩) n5 (c5 - 1)) n5 (flat entL r)) := fun y h9 => by
    rw [e5, hl5, h5] at h9
    exact row_tail5 h9
  have H5 := Lib.hid h5
  clear hr5 hn5 hl5 htl h5
  obtain ⟨iw, hiw, q0, q1, q2⟩ := parts_wri
  have HIw := Lib.hid hiw
  have HAw := Lib.hid q0
  have HBw := Lib.hid q1
  have HCw := Lib.hid q2
  clear hiw q0 q1 q2
  obtain ⟨ie, hie, q0, q1, q2⟩ := parts_ent
  have HIe := Lib.hid hie
  have HAe := Lib.hid q0
  have HBe := Lib.hid q1
  have HCe := Lib.hid q2
  clear hie q0 q1 q2
  obtain ⟨W1, hW1⟩ : ∃ W1, W1 = W.alloc (.cells #[.int .i64 q.addr, .int .i64 q.size, .int .u32 q.val] 68) := ⟨_, rfl⟩
  have hb1 : Below W.heap.size W W1 := by rw [hW1]; exact (Below.refl _ _).alloc (Nat.le_refl _) _
  have D1 := Lib.hid (D0.out.below hb1)
  have X1 : Hid (Box W1 W.heap.size (wrL ⟨q.addr, q.size, q.val⟩)) := by rw [hW1]; exact Box.new W (wrL ⟨q.addr, q.size, q.val⟩) _
  have t0 : W1.cell? ⟨W.heap.size, 0, none⟩ = some (.int .i64 q.addr) := X1.out.cell rfl
  have t1 : W1.cell? ⟨W.heap.size, 1, none⟩ = some (.int .i64 q.size) := X1.out.cell rfl
  have t2 : W1.cell? ⟨W.heap.size, 2, none⟩ = some (.int .u32 q.val) := X1.out.cell rfl
  have t3 := D1.out.bx.cell (sta_mem HX.out)
  rw [e7] at t3
  clear hb1
  go_enter Try.func32, Try.ntmps32
  go_wp2_with (first | (rw [← hW]; clear hW) | (rw [← hW1]; clear hW1))
  refine (refStore_any A7 c7 x.mem.length x.mem q.val W1 q.size q.addr (by have h9 := Row.of_own D1.out.own.mem; rw [e7] at h9; exact h9) (by have := HS.out.mem; omega) HQ.out.2.2.1 HQ.out.2.1 HQ.out.2.2.2.1).mono ?_
  rintro e y1 ⟨u1, rfl, o1, b1⟩
  have D2 := Lib.hid ((D1.out.below b1).row_mem (m := storeZ x.mem q.size q.addr q.val) (u := u1) (by rw [storeZ_len]; exact own_less o1 D1.out.sz))
  have X2 := Lib.hid (X1.out.below b1 X1.out.lt)
  obtain ⟨B1, k1, rfl⟩ := (Row.of_own o1).form
  have hz2 := D2.out.bx.lt
  clear o1 b1 t0 t1 t2 t3
  have hz2 := D2.out.bx.lt
  obtain ⟨y1s, hy1s⟩ : ∃ y1s, y1s = y1.heap.size := ⟨_, rfl⟩
  clear hy1s
  go_wp2_with (first
    | (refine wpList_put_cell rfl 39 _ _ rfl w.heap.size 84 (.slice B1 x.mem.length k1) rfl rfl rfl _ D2.out.bx (by rw [staL_len HX.out]; omega) (by kernel_rfl) ?_; intro y2 hbx hg; rw [set_mem HX.out] at hbx; have D3 := Lib.hid (D2.out.put hbx hg); have X3 := Lib.hid (X2.out.grown hg (fun e => by injection e with e; omega)); have t0 : y2.cell? ⟨W.heap.size, 0, none⟩ = some (.int .i64 q.addr) := X3.out.cell rfl; have t1 : y2.cell? ⟨W.heap.size, 1, none⟩ = some (.int .i64 q.size) := X3.out.cell rfl; have t2 : y2.cell? ⟨W.heap.size, 2, none⟩ = some (.int .u32 q.val) := X3.out.cell rfl; have t3 := D3.out.bx.cell (sta_ws HX.out); dsimp only at t3; rw [e8] at t3; have hz3 := X3.out.lt; have D4 := Lib.hid (D3.out.below ((Below.refl y2.heap.size y2).alloc (Nat.le_refl _) (.cells #[.int .i64 q.addr, .int .i64 q.size, .int .u32 q.val] 68))); have R4 := Lib.hid (row_new y2 (wrL ⟨q.addr, q.size, q.val⟩) 3 rfl (by omega) 68); clear hbx hg)
    | (refine wpList_append_new _ rfl (.tmp 22) (.tmp 24) 40 rfl base 68 iw _ 3 24 Try.underlying40 HIw.out HAw.out HBw.out HCw.out rfl (by omega) (.slice A8 x.ws.length c8) x.ws.length (wsL x.ws) rfl (by have h9 := D4.out.own.ws; dsimp only at h9; rw [e8] at h9; exact h9) _ (.slice (some ⟨y2.heap.size, 0, none⟩) 1 1) 1 (wrL ⟨q.addr, q.size, q.val⟩) rfl R4.out (wrL_one _) (by unfold maxLen; have := HS.out.ws; omega) (by have := HS.out.ws; omega) (by simp; omega) ?_; intro u2 y3 hO hg hn2; obtain ⟨B2, k2, rfl⟩ := (Row.of_own hO).form; have X5 := Lib.hid (D4.out.app_ws (m := x.ws ++ [⟨q.addr, q.size, q.val⟩]) rfl (by rw [List.length_append, wsL_snoc]; exact hO) (by dsimp only; rw [e8]; exact hg) (by dsimp only; rw [e8]; exact hn2)); have hz4 := X5.out.bx.lt; clear hO hg hn2 t0 t1 t2 t3)
    | (refine wpList_put_cell rfl 40 _ _ rfl w.heap.size 85 (.slice B2 (x.ws.length + 1) k2) rfl rfl rfl _ X5.out.bx (by rw [staL_len HX.out]; omega) (by kernel_rfl) ?_; intro y4 hbx hg; rw [set_ws HX.out] at hbx; have D6 := Lib.hid (X5.out.put hbx hg); have t3 := D6.out.bx.cell (sta_saq HX.out); dsimp only at t3; rw [e5] at t3; have hz5 := D6.out.bx.lt; clear hbx hg)
    | (refine wpList_append_new _ rfl (.const (.slice none 0 0)) (.tmp 33) 37 rfl (w.heap.size + 3) 66 ie _ 5 32 Try.underlying37 HIe.out HAe.out HBe.out HCe.out rfl (by omega) (.slice none 0 0) 0 [] rfl (World.ownsRow_nil _ _ _ _) _ (.slice (some ⟨g5, o5 + 5, none⟩) n5 (c5 - 1)) n5 (flat entL r) rfl (HRT.out y4 (by have h9 := Row.of_own D6.out.own.saq; dsimp only at h9; exact h9)) (flat_oneC entL_one _) (by unfold maxLen; omega) (by omega) (by have := D6.out.sz; omega) ?_; intro u3 y5 hO hg hn2; rw [List.nil_append] at hO; obtain ⟨B3, k3, hv3⟩ := (Row.of_own hO).form; rw [Nat.zero_add] at hO hv3; subst hv3; have D7 := Lib.hid ((D6.out.below (Below.grown (Below.refl _ _) hg (Nat.le_refl _) (fun q hq => by cases hq))).row_saq (m := r) (by rw [← HN5.out]; exact hO)); have hz6 := D7.out.bx.lt; clear hO hg hn2 t3)
    | (refine wpList_put_cell rfl 37 _ _ rfl w.heap.size 82 (.slice B3 n5 k3) rfl rfl rfl _ D7.out.bx (by rw [staL_len HX.out]; omega) (by kernel_rfl) ?_; intro y6 hbx hg; rw [set_saq HX.out] at hbx; have D8 := Lib.hid (D7.out.put hbx hg); clear hbx hg)
    | (refine wpList_load_box rfl 44 (.tmp 2) rfl w.heap.size 0 rfl (staL x { v with mem := .slice B1 x.mem.length k1, ws := .slice B2 (x.ws.length + 1) k2, saq := .slice B3 n5 k3 }) (staL x { v with mem := .slice B1 x.mem.length k1, ws := .slice B2 (x.ws.length + 1) k2, saq := .slice B3 n5 k3 }) D8.out.bx (fun j u hu => by rw [Nat.zero_add]; exact hu) _ Try.underlying44 rfl 92 sta_size (staL_len HX.out) ?_)
    | (refine wpList_store_box rfl 44 (.tmp 4) (.tmp 36) rfl (w.heap.size + 2) 0 (staL x { v with mem := .slice B1 x.mem.length k1, ws := .slice B2 (x.ws.length + 1) k2, saq := .slice B3 n5 k3 }) rfl rfl Z D8.out.bz (by rw [HZ.out, staL_len HX.out]; exact Nat.le_refl _) 92 sta_size (staL_len HX.out) D8.out.own.one ?_; intro w9 hb9 hg9; rw [splice_whole _ _ (by rw [HZ.out, staL_len HX.out])] at hb9; have X9 := Lib.hid hb9; have G9 := Lib.hid hg9; clear hb9 hg9))
  exact bodyPost_ret (v := .agg (staL x { v with mem := .slice B1 x.mem.length k1, ws := .slice B2 (x.ws.length + 1) k2, saq := .slice B3 n5 k3 }).toArray) (results_cell Try.results32 _ _ _ ⟨w.heap.size + 2, 0, none⟩ _ rfl (load_sta HX.out X9.out)) rfl (D8.out.out G9.out rfl)
end Go.Proofs.Ythhoigkmmlkfcaa.Words

/- Contract of package banks: a store's write. -/
namespace Go.Proofs.Ythhoigkmmlkfcaa.Words
set_option maxRecDepth 100000
open Go.RowKit
set_option linter.unusedVariables false
set_option linter.unusedSimpArgs false

theorem OutS.put' {W Y : World} {base ob : Nat} {v' : Vs} {x' : Sta} (h : base ≤ ob) (hb : Box Y ob (staL x' v')) (hg : W.grownBy Y (some ob)) (ho : StaAt W base v' x') (hoff : ∀ u ∈ vsL v', u.ownBlock ≠ some ob) : OutS base ob v' x' Y :=
  ⟨hb, ho.keepO (S := fun j => j = ob) (KeepS.of_grown hg (fun k e => by injection e with e; exact e.symm)) (fun u hu g hg e => hoff u hu (by rw [hg, e])), hoff, h⟩
theorem OutS.app_ws {W Y : World} {base ob : Nat} {v : Vs} {x : Sta} {u : Value} {m : List Wr} (h : OutS base ob v x W) (hg : W.grownBy Y v.ws.ownBlock) (ho : Y.ownsRow base 68 3 u m.length (wsL m)) (hn : ∀ g, u.ownBlock = some g → v.ws.ownBlock = some g ∨ W.heap.size ≤ g) :
    Box Y ob (staL x v) ∧ StaAt Y base { v with ws := u } { x with ws := m } ∧ ∀ y ∈ vsL { v with ws := u }, y.ownBlock ≠ some ob := by
  have h1 : v.ws.ownBlock ≠ some ob := h.off _ (by simp [vsL])
  refine ⟨h.bx.grown hg (fun e => h1 e.symm), h.own.app_ws ho hg, off_ws h.off (fun e => ?_)⟩
  rcases hn ob e with e | e
  · exact h1 e
  · have := h.bx.lt; omega

set_option maxHeartbeats 4000000 in
theorem writeB_any (x : Sta) (v : Vs) (addr size val : Int) (base ob : Nat) (w : World) (hx : x.Ok) (hO : OutS base ob v x w) (hb : base ≤ w.heap.size) (hs : StaFew x) (h3 : -9223372036854775808 ≤ size ∧ size ≤ 9223372036854775807) (h4 : 0 ≤ val ∧ val ≤ 4294967295) :
    Calls Try.prog 40 #[.pointer (some ⟨ob, 0, none⟩), .agg #[.int .i64 addr, .int .i64 size, .int .u32 val]] w (DoOut w base ob v { x with mem := storeZ x.mem size addr val, ws := x.ws ++ [⟨addr, size, val⟩], saq := x.saq.tail }) := by
  obtain ⟨iw, hiw, q0, q1, q2⟩ := parts_wri
  have HIw := Lib.hid hiw
  have HAw := Lib.hid q0
  have HBw := Lib.hid q1
  have HCw := Lib.hid q2
  clear hiw q0 q1 q2
  obtain ⟨W, hW⟩ : ∃ W, W = w.alloc (.cells #[.int .i64 addr, .int .i64 size, .int .u32 val] 68) := ⟨_, rfl⟩
  have hbW : Below w.heap.size w W := by rw [hW]; exact (Below.refl _ _).alloc (Nat.le_refl _) _
  have HQ : Hid (Box W w.heap.size (wrL ⟨addr, size, val⟩)) := by rw [hW]; exact Box.new w (wrL ⟨addr, size, val⟩) _
  have HO := Lib.hid (hO.below hbW)
  have HBW := Lib.hid hbW
  have HX := Lib.hid hx
  have HS := Lib.hid hs
  have hob : ob < W.heap.size := HO.out.bx.lt
  have hqb : w.heap.size < W.heap.size := HQ.out.lt
  have HNE : Hid (¬ w.heap.size = ob) := fun e => by have := hO.bx.lt; omega
  have HWS : Hid (∀ g, v.ws.ownBlock = some g → g < w.heap.size) := fun g hg => (hO.own.ws.lt g hg).2
  obtain ⟨A7, c7, e7⟩ := (Row.of_own hO.own.mem).form
  obtain ⟨A8, c8, e8⟩ := (Row.of_own hO.own.ws).form
  have H3 := Lib.hid h3
  have H4 := Lib.hid h4
  clear hO hbW hx hs h3 h4
  go_enter Try.func40, Try.ntmps40
  go_wp2_with (first | (rw [← hW]; clear hW))
  have HF1 := Lib.hid (fun (y : World) (h : Kept W y) => h.cell hob (show W.cell? ⟨ob, 84, none⟩ = some (.slice A7 x.mem.length c7) by rw [← e7]; exact HO.out.bx.cell (sta_mem HX.out)))
  refine wp_region_last [(0, true), (1, true), (2, true), (3, true), (4, true), (5, true), (6, false), (7, true), (8, true)] 9 []
    rfl (by kernel_rfl) (by kernel_rfl) rfl (by kernel_rfl) (by kernel_rfl) (by kernel_rfl) (by kernel_rfl) (Kept W) ?_
  simp only [List.map_cons, List.map_nil, List.getElem?_toArray, List.getElem?_cons_succ, List.getElem?_cons_zero]
  have hS0 : Kept W W.drew := (Kept.refl W).drew
  iterate 5 (refine lin_take (v := ?_) hS0 (by rfl) ?_ ?_; rotate_left; (intro y hy; have q1 := HF1.out y hy; go_simp; try (with_reducible rfl)); (try simp only [Act.put, List.setIfInBounds_toArray, List.set_cons_zero, List.set_cons_succ]))
  refine lin_takeB hS0 (by rfl) 68 (.tmp 3) rfl w.heap.size 0 rfl (wrL ⟨addr, size, val⟩) (wrL ⟨addr, size, val⟩) (fun y hy => HQ.out.keptB hy) wholeB _ Try.underlying68 rfl 3 (by kernel_rfl) rfl ?_
  (try simp only [Act.put, List.setIfInBounds_toArray, List.set_cons_zero, List.set_cons_succ])
  refine lin_call hS0 (by rfl) (fun K hK => ?_)
  go_simp
  refine (store_any (A := A7) (c := c7) (n := x.mem.length) (zs := x.mem) (v := val) (w := W.drew) size addr (by have h9 := Row.of_own (HO.out.below (Y := W.drew) (Below.refl _ _).drew).own.mem; rw [e7] at h9; exact h9) (by have := HS.out.mem; omega) H3.out H4.out).mono ?_
  rintro e y1 ⟨u1, rfl, o1, b1⟩
  have hS1 : Kept W y1 := hS0.to b1
  have O1 := Lib.hid ((HO.out.below (Y := W.drew) (Below.refl _ _).drew).below b1)
  have HU : Hid (u1.ownBlock ≠ some ob) := fun e => by have := (o1.lt _ e).1; have : ob < W.drew.heap.size := hob; omega
  have N1 : Hid (y1.ownsRow base 5 1 u1 (storeZ x.mem size addr val).length (bytesL (storeZ x.mem size addr val))) := by rw [storeZ_len]; exact own_less o1 (Nat.le_trans hb HBW.out.size)
  have HBY := Lib.hid (HBW.out.trans ((Below.drew (Below.refl _ _)).trans b1 |>.mono HBW.out.size))
  have HQ1 := Lib.hid (HQ.out.keptB hS1)
  clear b1 o1
  go_wp2_with fail
  refine hK.out _ _ hS1 (fun _ => ?_)
  clear hK K hS0
  try simp only [Act.put, List.setIfInBounds_toArray, List.set_cons_zero, List.set_cons_succ]
  iterate 2 (refine lin_take (v := ?_) hS1 (by rfl) ?_ ?_; rotate_left; (intro y hy; go_simp; try (with_reducible rfl)); (try simp only [Act.put, List.setIfInBounds_toArray, List.set_cons_zero, List.set_cons_succ]))
  refine last_put_cell (by rfl) 39 _ _ rfl ob 84 u1 (by go_simp) (by go_simp) (own_one N1.out) _ O1.out.bx (by rw [staL_len HX.out]; omega) (by kernel_rfl) ?_
  intro y2 hbx hg
  rw [set_mem HX.out] at hbx
  have S2 := Lib.hid (O1.out.put (x' := { x with mem := storeZ x.mem size addr val }) (v' := { v with mem := u1 }) hbx hg (O1.out.own.set_mem (m := storeZ x.mem size addr val) N1.out) (off_mem O1.out.off HU.out))
  have K2 : Hid (KeepS (fun j => j = ob) w y2) := (KeepS.of_below HBY.out).trans (KeepS.of_grown hg (fun k e => by injection e with e; exact e.symm))
  have HQ2 := Lib.hid (HQ1.out.grown hg (fun e => HNE.out (by injection e)))
  clear hbx hg hS1 HF1
  have hob2 : ob < y2.heap.size := S2.out.bx.lt
  have hw2 : w.heap.size < y2.heap.size := HQ2.out.lt
  have HNW : Hid (¬ v.ws.ownBlock = some ob) := S2.out.off v.ws (by simp [vsL])
  have HNQ : Hid (¬ v.ws.ownBlock = some w.heap.size) := fun e => by have := HWS.out _ e; omega
  go_wp2_with fail
  have HF2 := Lib.hid (fun (y : World) (h : KeepS (fun j => v.ws.ownBlock = some j) y2 y) => h.cell hob2 HNW.out (show y2.cell? ⟨ob, 85, none⟩ = some (.slice A8 x.ws.length c8) by rw [← e8]; exact S2.out.bx.cell (sta_ws (x := { x with mem := storeZ x.mem size addr val }) ⟨HX.out.a, HX.out.e⟩)))
  refine wp_region_last [(0, true), (1, true), (2, true), (3, true), (4, true), (5, true), (6, false), (7, false), (8, true), (9, true)] 10 []
    rfl (by kernel_rfl) (by kernel_rfl) rfl (by kernel_rfl) (by kernel_rfl) (by kernel_rfl) (by kernel_rfl) (KeepS (fun j => v.ws.ownBlock = some j) y2) ?_
  simp only [List.map_cons, List.map_nil, List.getElem?_toArray, List.getElem?_cons_succ, List.getElem?_cons_zero]
  have hT0 : KeepS (fun j => v.ws.ownBlock = some j) y2 y2.drew := (KeepS.refl _ _).drew
  iterate 5 (refine lin_take (v := ?_) hT0 (by rfl) ?_ ?_; rotate_left; (intro y hy; have q1 := HF2.out y hy; go_simp; try (with_reducible rfl)); (try simp only [Act.put, List.setIfInBounds_toArray, List.set_cons_zero, List.set_cons_succ]))
  refine lin_takeB hT0 (by rfl) 68 (.tmp 3) rfl w.heap.size 0 rfl [.int .i64 addr, .int .i64 size, .int .u32 val] [.int .i64 addr, .int .i64 size, .int .u32 val] (fun y hy => HQ2.out.keepS hy HNQ.out) wholeB _ Try.underlying68 rfl 3 (by kernel_rfl) rfl ?_
  (try simp only [Act.put, List.setIfInBounds_toArray, List.set_cons_zero, List.set_cons_succ])
  refine lin_call hT0 (by rfl) (fun K hK => ?_)
  go_simp
  obtain ⟨Y, hY⟩ : ∃ Y, Y = (y2.alloc (.cells #[.int .i64 addr, .int .i64 size, .int .u32 val] 68)).drew := ⟨_, rfl⟩
  have hT1 : KeepS (fun j => v.ws.ownBlock = some j) y2 Y := by rw [hY]; exact ((KeepS.refl _ y2).alloc _).drew
  have HR : Hid (Row Y Y.heap.size 3 (.slice (some ⟨y2.heap.size, 0, none⟩) 1 1) 1 (wrL ⟨addr, size, val⟩)) := by
    rw [hY]
    have h9 := row_new y2 (wrL ⟨addr, size, val⟩) 3 rfl (by omega) 68
    exact (h9.more (by simp)).drew
  have SY : Hid (OutS base ob { v with mem := u1 } { x with mem := storeZ x.mem size addr val } Y) := by rw [hY]; exact S2.out.below ((Below.refl y2.heap.size y2).alloc (Nat.le_refl _) _).drew
  have KY : Hid (KeepS (fun j => j = ob) w Y) := by rw [hY]; exact (K2.out.alloc _).drew
  rw [← hY]
  refine hK.out _ _ hT1 (fun _ => ?_)
  clear hK K hT0 hY
  try simp only [Act.put, List.setIfInBounds_toArray, List.set_cons_zero, List.set_cons_succ]
  refine lin_call hT1 (by rfl) (fun K hK => ?_)
  refine wp_append_new _ (.tmp 17) (.tmp 19) 40 rfl base 68 iw _ 3 24 Try.underlying40 HIw.out HAw.out HBw.out HCw.out rfl (by omega) (.slice A8 x.ws.length c8) x.ws.length (wsL x.ws) rfl (by have h9 := SY.out.own.ws; dsimp only at h9; rw [e8] at h9; exact h9) _ (.slice (some ⟨y2.heap.size, 0, none⟩) 1 1) 1 (wrL ⟨addr, size, val⟩) rfl HR.out (wrL_one _) (by unfold maxLen; have := HS.out.ws; omega) (by have := HS.out.ws; omega) (by have := SY.out.hb; have := SY.out.bx.lt; omega) ?_
  intro u2 y3 hO3 hg3 hn3
  rw [← e8] at hg3 hn3
  have hT2 : KeepS (fun j => v.ws.ownBlock = some j) y2 y3 := hT1.trans (KeepS.of_grown hg3 (fun k e => e))
  have N3 := Lib.hid (SY.out.app_ws (u := u2) (m := x.ws ++ [⟨addr, size, val⟩]) hg3 (by rw [List.length_append, wsL_snoc]; exact hO3) hn3)
  have K3 : Hid (KeepS (fun j => j = ob ∨ v.ws.ownBlock = some j) w y3) := (KY.out.mono (fun k e => .inl e)).trans (KeepS.of_grown hg3 (fun k e => .inr e))
  obtain ⟨B2, k2, rfl⟩ := (Row.of_own hO3).form
  clear hO3 hg3 hn3
  refine hK.out _ _ hT2 (fun _ => ?_)
  clear hK K hT1
  try simp only [Act.put, List.setIfInBounds_toArray, List.set_cons_zero, List.set_cons_succ]
  iterate 2 (refine lin_take (v := ?_) hT2 (by rfl) ?_ ?_; rotate_left; (intro y hy; go_simp; try (with_reducible rfl)); (try simp only [Act.put, List.setIfInBounds_toArray, List.set_cons_zero, List.set_cons_succ]))
  have HXm : Hid (Sta.Ok { x with mem := storeZ x.mem size addr val }) := ⟨HX.out.a, HX.out.e⟩
  refine last_put_cell (by rfl) 40 _ _ rfl ob 85 (.slice B2 (x.ws.length + 1) k2) (by go_simp) (by go_simp) rfl _ N3.out.1 (by rw [staL_len HXm.out]; omega) (by kernel_rfl) ?_
  intro y4 hbx hg
  rw [set_ws HXm.out] at hbx
  have S4 : Hid (OutS base ob { v with mem := u1, ws := .slice B2 (x.ws.length + 1) k2 } { x with mem := storeZ x.mem size addr val, ws := x.ws ++ [⟨addr, size, val⟩] } y4) := OutS.put' SY.out.hb hbx hg N3.out.2.1 N3.out.2.2
  have K4 : Hid (KeepS (fun j => j = ob ∨ v.ws.ownBlock = some j) w y4) := K3.out.trans (KeepS.of_grown hg (fun k e => by injection e with e; exact .inl e.symm))
  clear hbx hg hT2 HF2 N3 SY KY HR K3
  have hob4 : ob < y4.heap.size := S4.out.bx.lt
  obtain ⟨A5, c5, e5⟩ := S4.out.own.saq.1.form
  dsimp only at e5
  have HXw : Hid (Sta.Ok { x with mem := storeZ x.mem size addr val, ws := x.ws ++ [⟨addr, size, val⟩] }) := ⟨HX.out.a, HX.out.e⟩
  have t5 : y4.cell? ⟨ob, 82, none⟩ = some (.slice A5 x.saq.length c5) := by rw [← e5]; exact S4.out.bx.cell (sta_saq HXw.out)
  obtain hsq | ⟨e0, r, hsq⟩ : x.saq = [] ∨ ∃ e0 r, x.saq = e0 :: r := by
    cases x.saq with
    | nil => exact .inl rfl
    | cons e0 r => exact .inr ⟨e0, r, rfl⟩
  · rw [hsq, List.length_nil] at t5
    have HSQ := Lib.hid hsq
    clear hsq
    go_wp2_with fail
    have HEQ : Hid (OutS base ob { v with mem := u1, ws := .slice B2 (x.ws.length + 1) k2 } { x with mem := storeZ x.mem size addr val, ws := x.ws ++ [⟨addr, size, val⟩], saq := x.saq.tail } y4) := by rw [show x.saq.tail = x.saq by rw [HSQ.out]; rfl]; exact S4.out
    first | exact bodyPost_ret (v := .tuple #[]) (by simp [results, Try.results40, go_sem]) rfl ⟨rfl, { v with mem := u1, ws := .slice B2 (x.ws.length + 1) k2 }, HEQ.out, K4.out, rfl⟩ | exact bodyPost_end (v := .tuple #[]) (by simp [results, Try.results40, go_sem]) rfl ⟨rfl, { v with mem := u1, ws := .slice B2 (x.ws.length + 1) k2 }, HEQ.out, K4.out, rfl⟩
  · obtain ⟨n5, hn5⟩ : ∃ n5, n5 = r.length := ⟨_, rfl⟩
    have hl5 : x.saq.length = n5 + 1 := by rw [hsq, hn5]; rfl
    have HSQ := Lib.hid hsq
    have HN5 := Lib.hid hn5
    have hr5 := S4.out.own.saq
    dsimp only at hr5
    rw [e5, hl5, hsq] at hr5
    have hcap5 := hr5.1.cap
    obtain ⟨g5, o5, hA5, _, _⟩ := hr5.1.at_ (by omega)
    subst hA5
    rw [hl5] at t5
    have HR5 := Lib.hid hr5
    have HOFF : Hid (¬ (some g5 : Option Nat) = some ob) := by
      have h9 := S4.out.off v.saq (by simp [vsL])
      rw [e5] at h9
      exact fun e => h9 e
    clear hsq hn5 hl5 hr5
    by_cases hc1 : c5 = 1
    · have hn0 : n5 = 0 := by omega
      subst hc1
      subst hn0
      have hr0 : r = [] := List.length_eq_zero_iff.1 HN5.out.symm
      have HR6 : Hid (AtRow y4 base 66 5 (.slice (some ⟨g5, o5, none⟩) 0 0) x.saq.tail.length (flat entL x.saq.tail)) := by
        have h9 := HR5.out
        rw [hr0] at h9
        have h8 := h9.tail_nil
        rw [HSQ.out, hr0]
        exact h8
      clear hr0 HR5
      go_wp2_with (first
        | (refine wpList_put_cell rfl 37 _ _ rfl ob 82 (.slice (some ⟨g5, o5, none⟩) 0 0) rfl rfl rfl _ S4.out.bx (by rw [staL_len HXw.out]; omega) (by kernel_rfl) ?_; intro y5 hbx hg; rw [set_saq HXw.out] at hbx; have S5 := Lib.hid (S4.out.put (x' := { x with mem := storeZ x.mem size addr val, ws := x.ws ++ [⟨addr, size, val⟩], saq := x.saq.tail }) (v' := { v with mem := u1, ws := .slice B2 (x.ws.length + 1) k2, saq := .slice (some ⟨g5, o5, none⟩) 0 0 }) hbx hg (S4.out.own.set_saq HR6.out) (off_saq S4.out.off HOFF.out)); have K5 := Lib.hid (K4.out.trans (KeepS.of_grown hg (fun k e => by injection e with e; exact .inl e.symm))); clear hbx hg))
      first | exact bodyPost_ret (v := .tuple #[]) (by simp [results, Try.results40, go_sem]) rfl ⟨rfl, { v with mem := u1, ws := .slice B2 (x.ws.length + 1) k2, saq := .slice (some ⟨g5, o5, none⟩) 0 0 }, S5.out, K5.out, rfl⟩ | exact bodyPost_end (v := .tuple #[]) (by simp [results, Try.results40, go_sem]) rfl ⟨rfl, { v with mem := u1, ws := .slice B2 (x.ws.length + 1) k2, saq := .slice (some ⟨g5, o5, none⟩) 0 0 }, S5.out, K5.out, rfl⟩
    · have HR6 : Hid (AtRow y4 base 66 5 (.slice (some ⟨g5, o5 + 5, none⟩) n5 (c5 - 1)) x.saq.tail.length (flat entL x.saq.tail)) := by
        have h9 := HR5.out.tail entL_len
        rw [HSQ.out]
        show AtRow y4 base 66 5 (.slice (some ⟨g5, o5 + 5, none⟩) n5 (c5 - 1)) r.length (flat entL r)
        rw [← HN5.out]
        exact h9
      clear HR5
      have hc2 : 1 < c5 := by omega
      go_wp2_with (first
        | (refine wpList_put_cell rfl 37 _ _ rfl ob 82 (.slice (some ⟨g5, o5 + 5, none⟩) n5 (c5 - 1)) rfl rfl rfl _ S4.out.bx (by rw [staL_len HXw.out]; omega) (by kernel_rfl) ?_; intro y5 hbx hg; rw [set_saq HXw.out] at hbx; have S5 := Lib.hid (S4.out.put (x' := { x with mem := storeZ x.mem size addr val, ws := x.ws ++ [⟨addr, size, val⟩], saq := x.saq.tail }) (v' := { v with mem := u1, ws := .slice B2 (x.ws.length + 1) k2, saq := .slice (some ⟨g5, o5 + 5, none⟩) n5 (c5 - 1) }) hbx hg (S4.out.own.set_saq HR6.out) (off_saq S4.out.off HOFF.out)); have K5 := Lib.hid (K4.out.trans (KeepS.of_grown hg (fun k e => by injection e with e; exact .inl e.symm))); clear hbx hg))
      first | exact bodyPost_ret (v := .tuple #[]) (by simp [results, Try.results40, go_sem]) rfl ⟨rfl, { v with mem := u1, ws := .slice B2 (x.ws.length + 1) k2, saq := .slice (some ⟨g5, o5 + 5, none⟩) n5 (c5 - 1) }, S5.out, K5.out, rfl⟩ | exact bodyPost_end (v := .tuple #[]) (by simp [results, Try.results40, go_sem]) rfl ⟨rfl, { v with mem := u1, ws := .slice B2 (x.ws.length + 1) k2, saq := .slice (some ⟨g5, o5 + 5, none⟩) n5 (c5 - 1) }, S5.out, K5.out, rfl⟩
end Go.Proofs.Ythhoigkmmlkfcaa.Words

/- Contract of package banks: do, what a request that is done leaves. -/
namespace Go.Proofs.Ythhoigkmmlkfcaa.Words
set_option maxRecDepth 100000
open Go.RowKit
set_option linter.unusedVariables false
set_option linter.unusedSimpArgs false

theorem DoOut.from {w W : World} {base ob : Nat} {v : Vs} {x' : Sta} {e : Ending} {w' : World} (h : DoOut W base ob v x' e w') (hb : Below w.heap.size w W) : DoOut w base ob v x' e w' := by
  obtain ⟨h1, v', h2, h3, h4⟩ := h
  exact ⟨h1, v', h2, (KeepS.of_below hb).trans h3, h4⟩
set_option maxHeartbeats 4000000 in
theorem doB_any (x : Sta) (v : Vs) (q : Rqs) (base ob : Nat) (w : World) (hx : x.Ok) (hO : OutS base ob v x w) (hb : base ≤ w.heap.size) (hs : StaFew x) (hm : ∀ b ∈ x.mem, 0 ≤ b ∧ b ≤ 255) (hq : q.Fits) :
    Calls Try.prog 35 #[.pointer (some ⟨ob, 0, none⟩), .agg #[.bool q.store, .int .i64 q.op, .int .i64 q.addr, .int .i64 q.size, .int .u32 q.val, .int .i64 q.left, .int .i64 q.reg, .int .i64 q.tag]] w (DoOut w base ob v (doneZ x q)) := by
  obtain ⟨W, hW⟩ : ∃ W, W = w.alloc (.cells #[.bool q.store, .int .i64 q.op, .int .i64 q.addr, .int .i64 q.size, .int .u32 q.val, .int .i64 q.left, .int .i64 q.reg, .int .i64 q.tag] 54) := ⟨_, rfl⟩
  have hbW : Below w.heap.size w W := by rw [hW]; exact (Below.refl _ _).alloc (Nat.le_refl _) _
  have HQ : Hid (Box W w.heap.size (rqsL q)) := by rw [hW]; exact Box.new w (rqsL q) _
  have HO := Lib.hid (hO.below hbW)
  have HBW := Lib.hid hbW
  have HX := Lib.hid hx
  have HS := Lib.hid hs
  have HM := Lib.hid hm
  have HF := Lib.hid hq
  have hob : ob < W.heap.size := HO.out.bx.lt
  have hqb : w.heap.size < W.heap.size := HQ.out.lt
  have hbl := hbW.size
  clear hO hbW hx hs hm hq
  cases hst : q.store with
  | true =>
    have HE := Lib.hid (done_store (x := x) hst)
    have t0 : W.cell? ⟨w.heap.size, 0, none⟩ = some (.bool true) := by rw [← hst]; exact HQ.out.cell rfl
    have t2 : W.cell? ⟨w.heap.size, 2, none⟩ = some (.int .i64 q.addr) := HQ.out.cell rfl
    have t3 : W.cell? ⟨w.heap.size, 3, none⟩ = some (.int .i64 q.size) := HQ.out.cell rfl
    have t4 : W.cell? ⟨w.heap.size, 4, none⟩ = some (.int .u32 q.val) := HQ.out.cell rfl
    rw [hst] at hW
    clear hst
    go_enter Try.func35, Try.ntmps35
    go_wp2_with (first | (rw [← hW]; clear hW))
    refine (writeB_any x v q.addr q.size q.val base ob W HX.out HO.out (Nat.le_trans hb hbl) HS.out HF.out.2.2.1 HF.out.2.2.2.1).mono ?_
    rintro e w1 ho
    have HD := Lib.hid (ho.from HBW.out)
    obtain ⟨he, _⟩ := ho
    subst he
    go_wp2_with fail
    have HD2 : Hid (DoOut w base ob v (doneZ x q) (.returned (.tuple #[])) w1) := by rw [HE.out]; exact HD.out
    first | exact bodyPost_ret (v := .tuple #[]) (by simp [results, Try.results35, go_sem]) rfl HD2.out | exact bodyPost_end (v := .tuple #[]) (by simp [results, Try.results35, go_sem]) rfl HD2.out
  | false =>
    have HE := Lib.hid (done_load (x := x) hst)
    have t0 : W.cell? ⟨w.heap.size, 0, none⟩ = some (.bool false) := by rw [← hst]; exact HQ.out.cell rfl
    have HST := Lib.hid hst
    rw [hst] at hW
    clear hst
    obtain ⟨A7, c7, e7⟩ := (Row.of_own HO.out.own.mem).form
    go_enter Try.func35, Try.ntmps35
    go_wp2_with (first | (rw [← hW]; clear hW))
    have HF1 := Lib.hid (fun (y : World) (h : Kept W y) => h.cell hob (show W.cell? ⟨ob, 84, none⟩ = some (.slice A7 x.mem.length c7) by rw [← e7]; exact HO.out.bx.cell (sta_mem HX.out)))
    refine wp_region_last [(0, true), (1, true), (2, true), (3, true), (4, true), (5, true), (6, true), (7, false)] 8 []
      rfl (by kernel_rfl) (by kernel_rfl) rfl (by kernel_rfl) (by kernel_rfl) (by kernel_rfl) (by kernel_rfl) (Kept W) ?_
    simp only [List.map_cons, List.map_nil, List.getElem?_toArray, List.getElem?_cons_succ, List.getElem?_cons_zero]
    have hS0 : Kept W W.drew := (Kept.refl W).drew
    iterate 1 (refine lin_take (v := ?_) hS0 (by rfl) ?_ ?_; rotate_left; (intro y hy; go_simp; try (with_reducible rfl)); (try simp only [Act.put, List.setIfInBounds_toArray, List.set_cons_zero, List.set_cons_succ]))
    refine lin_takeB hS0 (by rfl) 54 (.tmp 3) rfl w.heap.size 0 rfl (rqsL q) (rqsL q) (fun y hy => HQ.out.keptB hy) wholeB _ Try.underlying54 rfl 8 (by kernel_rfl) rfl ?_
    (try simp only [Act.put, List.setIfInBounds_toArray, List.set_cons_zero, List.set_cons_succ])
    iterate 4 (refine lin_take (v := ?_) hS0 (by rfl) ?_ ?_; rotate_left; (intro y hy; have q1 := HF1.out y hy; go_simp; try (with_reducible rfl)); (try simp only [Act.put, List.setIfInBounds_toArray, List.set_cons_zero, List.set_cons_succ]))
    refine lin_takeB hS0 (by rfl) 54 (.tmp 3) rfl w.heap.size 0 rfl (rqsL q) (rqsL q) (fun y hy => HQ.out.keptB hy) wholeB _ Try.underlying54 rfl 8 (by kernel_rfl) rfl ?_
    (try simp only [Act.put, List.setIfInBounds_toArray, List.set_cons_zero, List.set_cons_succ])
    refine lin_call hS0 (by rfl) (fun K hK => ?_)
    go_simp
    refine (valueOf_any A7 c7 x.mem.length x.mem q W.drew (by have h9 := Row.of_own (HO.out.below (Y := W.drew) (Below.refl _ _).drew).own.mem; rw [e7] at h9; exact h9) HM.out HF.out).mono ?_
    rintro e y1 ⟨rfl, b1⟩
    have hS1 : Kept W y1 := hS0.to b1
    have O1 := Lib.hid ((HO.out.below (Y := W.drew) (Below.refl _ _).drew).below b1)
    have B1 := Lib.hid (HBW.out.trans ((Below.drew (Below.refl _ _)).trans b1 |>.mono HBW.out.size))
    clear b1
    go_wp2_with fail
    refine hK.out _ _ hS1 (fun _ => ?_)
    clear hK K hS0
    try simp only [Act.put, List.setIfInBounds_toArray, List.set_cons_zero, List.set_cons_succ]
    refine last_call (by rfl) (fun K hK => ?_)
    go_simp
    refine (deliver_any x v q (broughtZ x.mem q) base ob y1 HX.out O1.out (Nat.le_trans hb B1.out.size) (by have := HS.out.ldq; omega)).mono ?_
    rintro e w1 ho
    have HD := Lib.hid (ho.from B1.out)
    obtain ⟨he, _⟩ := ho
    subst he
    go_wp2_with fail
    refine hK.out _ _ ?_
    clear hK K
    try simp only [Act.put, List.setIfInBounds_toArray, List.set_cons_zero, List.set_cons_succ]
    go_wp2_with fail
    have HD2 : Hid (DoOut w base ob v (doneZ x q) (.returned (.tuple #[])) w1) := by rw [HE.out]; exact HD.out
    first | exact bodyPost_ret (v := .tuple #[]) (by simp [results, Try.results35, go_sem]) rfl HD2.out | exact bodyPost_end (v := .tuple #[]) (by simp [results, Try.results35, go_sem]) rfl HD2.out
end Go.Proofs.Ythhoigkmmlkfcaa.Words

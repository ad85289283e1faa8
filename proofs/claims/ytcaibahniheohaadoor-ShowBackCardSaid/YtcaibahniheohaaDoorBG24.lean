/- Contract of the document's own Asm. -/
import Derived.Test.YtcaibahniheohaaDoorBG10
import Derived.Test.YtcaibahniheohaaDoorBG23
import Derived.Test.YtcaibahniheohaaDoorBG07
namespace Go.Proofs.YtcaibahniheohaaDoor.Words
set_option maxRecDepth 100000
open Go.RowKit Go.Shelf Go.Lib
set_option linter.unusedVariables false
set_option linter.unusedSimpArgs false
theorem hasP_at {s : List UInt8} {l : List ItP} {j k : Nat} {y : ItP} (hj : j < k) (h : l[j]? = some y) : hasP s ((l.take k).drop j) = (decide (y.kind = 1 ∧ y.label = s) || hasP s ((l.take k).drop (j + 1))) := by
 have h2 : (l.take k)[j]? = some y := by rw [List.getElem?_take_of_lt hj]; exact h
 obtain ⟨hlt, he⟩ := List.getElem?_eq_some_iff.1 h2
 rw [List.drop_eq_getElem_cons hlt, he]; rfl
theorem hasP_end (s : List UInt8) (l : List ItP) {j k : Nat} (h : k ≤ j) : hasP s ((l.take k).drop j) = false := by
 rw [List.drop_eq_nil_of_le (by rw [List.length_take]; omega)]; rfl
def itC (kd at_ : Int) (x : ItP) (vu : Value) (ua : Int) (vn va : Value) : List Value := [.int .i64 kd, .int .i64 at_, .string (txt x.label), .int .i64 x.ins.op, .int .i64 x.ins.d, .int .i64 x.ins.a, .int .i64 x.ins.b, .int .i64 x.ins.imm, vu, .int .i64 ua, vn, va]
theorem zp_one : ∀ v ∈ [Value.slice none 0 0, .int .i64 0, .slice none 0 0], v.oneCell' = true := by
 intro v hv
 simp only [List.mem_cons, List.not_mem_nil, or_false] at hv
 rcases hv with rfl | rfl | rfl <;> rfl
theorem grown_keeps {w w' : World} {b XB o : Nat} {v : Value} (hg : w.grownBy w' (some b)) (hx : XB < w.heap.size) (hne : XB ≠ b) (h : w.cell? ⟨XB, o, none⟩ = some v) : w'.cell? ⟨XB, o, none⟩ = some v := by
 rw [World.cell?_of_block (a := ⟨XB, o, none⟩) (hg.block XB hx (fun e => by injection e with e; exact hne e))]; exact h
section
variable {P : Program} {ops : Array Oper} {rest : List (Option Oper × Bool)} {op : Oper} {a : Act} {Q : Exit → Act → World → Prop} {S : World → Prop} {w : World}
theorem lin_put_box (hS : S w) (hw : Region.wanted op (yielded ops a.tmps) = true) (ty : TypeId) (x y : Operand) (ho : op.op = .store ty x y)
  (b k : Nat) (cs : List Value) (hx : a.eval x = .pointer (some ⟨b, k, none⟩)) (hy : a.eval y = .agg cs.toArray) (l : List Value) (hb : Box w b l) (hl : k + cs.length ≤ l.length)
  (n : Nat) (hi : (P.info? ty).map (·.size) = some n) (hn : cs.length = n) (h1 : ∀ v ∈ cs, v.oneCell' = true)
  (hT : ∀ w', Box w' b (splice l k cs) → w.grownBy w' (some b) → S w')
  (h : ∀ w', Box w' b (splice l k cs) → w.grownBy w' (some b) → wpLin P ops Q rest S (a.put op.dst undef) w') : wpLin P ops Q ((some op, false) :: rest) S a w :=
 lin_call hS hw fun K hK => wp_store_mid ty x y ho b k cs.toArray hx hy (hb.there (by simpa using hl)) (by rw [hi]; simp [hn]) (all_oneCell_toArray h1) (hK.out _ _
  (hT _ (by simpa using hb.setCells hl) (by simpa using grown_setCells w b cs k hb.lt)) fun _ => h _ (by simpa using hb.setCells hl) (by simpa using grown_setCells w b cs k hb.lt))
end
theorem insCells_oneA (i : Ins) : ∀ u ∈ insCells i, u.oneCell' = true := by
 intro u hu
 simp only [insCells, List.mem_cons, List.not_mem_nil, or_false] at hu
 rcases hu with rfl | rfl | rfl | rfl | rfl <;> rfl
theorem placeP_le (s : List UInt8) : ∀ (l : List ItP) (n : Nat), -1 ≤ placeP s l n ∧ placeP s l n ≤ (n : Int) + (l.length : Int)
 | [], n => ⟨Int.le_refl _, by show (-1 : Int) ≤ (n : Int) + ((0 : Nat) : Int); omega⟩
 | y :: l, n => by
  have e : placeP s (y :: l) n = if y.kind = 1 ∧ y.label = s then (n : Int) else placeP s l (if y.kind = 2 then n + 1 else n) := rfl
  have hl : (((y :: l).length : Nat) : Int) = (l.length : Int) + 1 := by simp
  rw [e, hl]
  by_cases h : y.kind = 1 ∧ y.label = s
  ·rw [if_pos h]; omega
  ·rw [if_neg h]
   by_cases h2 : y.kind = 2
   ·rw [if_pos h2]; have := placeP_le s l (n + 1); omega
   ·rw [if_neg h2]; have := placeP_le s l n; omega
structure AsS (w0 wr : World) (PB : Nat) (vc vd : Value) (p : Prog) : Prop where
 kept : Kept w0 wr
 box : Box wr PB [vc, .int .i64 p.size, vd]
 code : wr.ownsRow (PB + 1) 38 5 vc p.code.length (codeCells p.code)
 data : wr.ownsRow (PB + 1) 5 1 vd p.data.length (p.data.map (Value.int .u8))
 hPB : w0.heap.size ≤ PB
section
variable {w0 wr x : World} {PB : Nat} {vc vd : Value} {p : Prog}
theorem AsS.below (h : AsS w0 wr PB vc vd p) (hb : Below wr.heap.size wr x) : AsS w0 x PB vc vd p := ⟨h.kept.to hb, h.box.below hb h.box.lt, own_below h.code hb, own_below h.data hb, h.hPB⟩
theorem AsS.sized (h : AsS w0 wr PB vc vd p) (k : Int) : AsS w0 (wr.setCell ⟨PB, 1, none⟩ (.int .i64 k)) PB vc vd { p with size := k } :=
 ⟨Below.setCell h.kept h.hPB _, h.box.setCell 1 _, ownsRow_setCell_below h.code (Nat.lt_succ_self _) _, ownsRow_setCell_below h.data (Nat.lt_succ_self _) _, h.hPB⟩
end
section
variable {w0 wr y : World} {PB : Nat} {vc vd v3 : Value} {p : Prog}
theorem AsS.coded (h : AsS w0 wr PB vc vd p) (i : Ins) {o : Obj} (ho : y.ownsRow (PB + 1) 38 5 v3 (p.code.length + 1) (codeCells p.code ++ insCells i)) (hg : (wr.alloc o).grownBy y vc.ownBlock) :
  AsS w0 (y.setCell ⟨PB, 0, none⟩ v3) PB v3 vd { p with code := p.code ++ [i] } ∧ Box y PB [vc, .int .i64 p.size, vd] := by
 have hlt := h.box.lt
 have hob : ∀ k, vc.ownBlock = some k → PB + 1 ≤ k := fun k hk => (h.code.lt k hk).1
 have bx : Box y PB [vc, .int .i64 p.size, vd] := (h.box.alloc o).grown hg (fun e => by have := hob PB e.symm; omega)
 refine ⟨⟨?_, bx.setCell 0 v3, ?_, ?_, h.hPB⟩, bx⟩
 ·exact Below.setCell ((h.kept.alloc o).grown hg (h.kept.alloc o).size (fun k hk => by have := hob k hk; have := h.hPB; omega)) h.hPB _
 ·rw [codeCells_append, List.length_append]
  exact ownsRow_setCell_below (by simpa [codeCells] using ho) (a := ⟨PB, 0, none⟩) (Nat.lt_succ_self PB) v3
 ·exact ownsRow_setCell_below (own_grown (h.data.alloc o) hg (fun g hh => apart8 (h.data.alloc o) (h.code.alloc o) (by decide) hh)) (a := ⟨PB, 0, none⟩) (Nat.lt_succ_self PB) v3
theorem AsS.byted (h : AsS w0 wr PB vc vd p) (b : Int) {o : Obj} (ho : y.ownsRow (PB + 1) 5 1 v3 (p.data.length + 1) (p.data.map (Value.int .u8) ++ [.int .u8 b])) (hg : (wr.alloc o).grownBy y vd.ownBlock) :
  AsS w0 (y.setCell ⟨PB, 2, none⟩ v3) PB vc v3 { p with data := p.data ++ [b] } ∧ Box y PB [vc, .int .i64 p.size, vd] := by
 have hlt := h.box.lt
 have hob : ∀ k, vd.ownBlock = some k → PB + 1 ≤ k := fun k hk => (h.data.lt k hk).1
 have bx : Box y PB [vc, .int .i64 p.size, vd] := (h.box.alloc o).grown hg (fun e => by have := hob PB e.symm; omega)
 refine ⟨⟨?_, bx.setCell 2 v3, ?_, ?_, h.hPB⟩, bx⟩
 ·exact Below.setCell ((h.kept.alloc o).grown hg (h.kept.alloc o).size (fun k hk => by have := hob k hk; have := h.hPB; omega)) h.hPB _
 ·exact ownsRow_setCell_below (own_grown (h.code.alloc o) hg (fun g hh => apart8 (h.code.alloc o) (h.data.alloc o) (by decide) hh)) (a := ⟨PB, 2, none⟩) (Nat.lt_succ_self PB) v3
 ·rw [List.map_append, List.length_append]
  exact ownsRow_setCell_below ho (a := ⟨PB, 2, none⟩) (Nat.lt_succ_self PB) v3
theorem AsS.put (h : AsS w0 wr PB vc vd p) {x : Nat} (hx : PB < x) (h1 : vc.ownBlock ≠ some x) (h2 : vd.ownBlock ≠ some x) (k : Nat) (v : Value) : AsS w0 (wr.setCell ⟨x, k, none⟩ v) PB vc vd p :=
 ⟨Below.setCell h.kept (by have := h.hPB; show w0.heap.size ≤ x; omega) _, h.box.setCell_other (by omega) k v, ownsRow_setCell_other h.code h1 _, ownsRow_setCell_other h.data h2 _, h.hPB⟩
end
theorem badByte_at {ms as_ : List Int} {j : Nat} {m a : Int} (hm : ms[j]? = some m) (ha : as_[j]? = some a) : badByte (ms.drop j) (as_.drop j) = if m < 0 ∨ 255 < m then some a else badByte (ms.drop (j + 1)) (as_.drop (j + 1)) := by
 obtain ⟨h1, e1⟩ := List.getElem?_eq_some_iff.1 hm
 obtain ⟨h2, e2⟩ := List.getElem?_eq_some_iff.1 ha
 rw [List.drop_eq_getElem_cons h1, e1, List.drop_eq_getElem_cons h2, e2]; rfl
section
variable {P : Program} (w : World)
theorem wp_append_new {o : Oper} {a : Act} {K : Act → World → Prop} {Q : Exit → Act → World → Prop} (s y : Operand) (t : TypeId)
  (ho : o.op = .call { callee := .builtin .append, args := #[s, y], argTypes := #[t, t] })
  (base : Nat) (e : TypeId) (i : TypeInfo) (z : Value) (size bytes : Nat) (ht : P.underlying t = some (.slice e)) (hi : P.info? e = some i) (hz : i.zero = some z)
  (hsize : i.size = size) (hby : i.bytes = bytes) (hzs : z.cells.size = size) (hsz : 0 < size)
  (v : Value) (n : Nat) (xs : List Value) (hs : a.eval s = v) (hown : w.ownsRow base e size v n xs) (B : Nat) (x : Value) (m : Nat) (news : List Value) (hx : a.eval y = x) (hr : Row w B size x m news) (h1 : ∀ u ∈ news, u.oneCell' = true)
  (h63 : n + m ≤ maxLen) (hbytes : (n + m) * bytes ≤ 140737488355328) (hbase : base ≤ w.heap.size)
  (h : ∀ v' w', w'.ownsRow base e size v' (n + m) (xs ++ news) → w.grownBy w' v.ownBlock → (∀ g, v'.ownBlock = some g → v.ownBlock = some g ∨ w.heap.size ≤ g) → K (a.put o.dst v') w') : o.wp P a w K Q := by
 obtain ⟨v', w', hrun, h2, h3, h4⟩ := run_append_new (P := P) w base t o.type e i z size bytes ht hi hz hsize hby hzs hsz v n xs hown B x m news hr h1 h63 hbytes hbase
 unfold Oper.wp execOp
 simp only [ho, resolve, invoke, builtin, Sem.run_bind, Sem.run_pure, Result.andThen_ok, List.map_toArray, List.map_cons, List.map_nil, hs, hx, hrun]
 exact h v' w' h2 h3 h4
end
theorem AsS.drew {w0 wr : World} {PB : Nat} {vc vd : Value} {p : Prog} (h : AsS w0 wr PB vc vd p) : AsS w0 wr.drew PB vc vd p := ⟨h.kept.drew, h.box.drew, h.code, h.data, h.hPB⟩
set_option maxHeartbeats 16000000 in
theorem refAsm_any (l : List UInt8) (w : World) (hl : l.length ≤ 19000) (hT : TabsL w) :
  Calls Tryd.prog 7 #[.string (txt l)] w fun e w' => ReadOut (asmZ l) w.heap.size e w' ∧ Below w.heap.size w w' := by
 have hsz : (txt l).size = l.length := by rw [txt_sz]
 have HSZ := Lib.hid hsz
 obtain ⟨Z, hZ⟩ : ∃ Z, Z = asmZ l := ⟨_, rfl⟩
 have HZ := Lib.hid hZ
 rw [← hZ]
 have R0 : Hid (Box (w.alloc (.cells #[.slice none 0 0, .int .i64 0, .slice none 0 0] 26)) w.heap.size [.slice none 0 0, .int .i64 0, .slice none 0 0]) := Box.new w [.slice none 0 0, .int .i64 0, .slice none 0 0] _
 have B0 : Hid (Below w.heap.size w (w.alloc (.cells #[.slice none 0 0, .int .i64 0, .slice none 0 0] 26))) := (Below.refl _ _).alloc (Nat.le_refl _) _
 have hW1 : (w.alloc (.cells #[.slice none 0 0, .int .i64 0, .slice none 0 0] 26)).heap.size = w.heap.size + 1 := by simp
 have cS0 := refSplitL_any (txt l) (w.alloc (.cells #[.slice none 0 0, .int .i64 0, .slice none 0 0] 26)) (by rw [txt_sz]; omega) (hT.below ((Below.refl _ _).alloc (Nat.le_refl _) _))
 rw [txt_data] at cS0
 have cS := Lib.hid cS0
 have HLL := Lib.hid hl
 clear hZ hT cS0 hsz hl
 go_enter Tryd.func7, Tryd.ntmps7
 go_wp2_with fail
 refine cS.out.mono ?_; rintro en w2 ⟨ho, hb2⟩
 have R2 : Hid (Box w2 w.heap.size [.slice none 0 0, .int .i64 0, .slice none 0 0]) := R0.out.below hb2 (by omega)
 have B2 := Lib.hid (B0.out.trans (hb2.mono (by omega)))
 have hsz2 : w.heap.size + 1 ≤ w2.heap.size := by have := hb2.size; omega
 clear hb2
 rcases ho.cases with ⟨a, k, hz, rfl⟩ | ⟨T, v, hz, rfl, hown⟩
 ·have HB : Hid (Z = .bad a k) := by show _ = _; rw [HZ.out]; unfold asmZ; rw [hz]
  have hk : (k != 0) = true := by
   have := lexZ_good (l := l) (by have := HLL.out; omega)
   rw [hz] at this
   obtain ⟨_, h2⟩ := this
   rcases h2 with rfl | rfl <;> rfl
  have r0 := R2.out.cell (k := 0) rfl
  have r1 := R2.out.cell (k := 1) rfl
  have r2 := R2.out.cell (k := 2) rfl
  have g0 := R2.out.frozen 0
  have g1 := R2.out.frozen 1
  have g2 := R2.out.frozen 2
  clear ho hz
  go_wp2_with fail
  refine bodyPost_ret (v := .tuple #[.agg #[.slice none 0 0, .int .i64 0, .slice none 0 0], .int .i64 (a : Int), .int .i64 k]) (by simp [results, Tryd.results7, go_sem, r0, r1, r2]) rfl ⟨ReadOut.bad HB.out rfl, ((B2.out.setCell (p := ⟨w.heap.size, 0, none⟩) (Nat.le_refl _) _).setCell (p := ⟨w.heap.size, 1, none⟩) (Nat.le_refl _) _).setCell (p := ⟨w.heap.size, 2, none⟩) (Nat.le_refl _) _⟩
 ·have hasm := asm_items hz
  rw [← HZ.out] at hasm
  have HASM := Lib.hid hasm
  have HTL := Lib.hid (lex_len hz)
  have HEA0 := Lib.hid (items_each hz)
  have HFW0 := Lib.hid (items_few hz)
  have HNB := Lib.hid (itemsT_len T l.length)
  obtain ⟨A, tc, rfl⟩ := (Row.of_own hown).form
  have HOT := Lib.hid (Row.of_own hown)
  have hsz0 := HSZ.out
  clear ho hz hown hasm
  have RD : Hid (Rd (w2.alloc (.cells #[.slice A T.length tc, .int .i64 (l.length : Int), .int .i64 0, .int .i64 (-1)] 63)) w2.heap.size A tc T l.length 0 (-1)) :=
   ⟨Box.new w2 [.slice A T.length tc, .int .i64 (l.length : Int), .int .i64 ((0 : Nat) : Int), .int .i64 (-1)] _, HOT.out.alloc (Nat.le_refl _) _, Nat.zero_le _, by have := HTL.out; have := HLL.out; omega⟩
  have B3 : Hid (Below w2.heap.size w2 (w2.alloc (.cells #[.slice A T.length tc, .int .i64 (l.length : Int), .int .i64 0, .int .i64 (-1)] 63))) := (Below.refl _ _).alloc (Nat.le_refl _) _
  go_wp2_with fail
  refine (refItems_any w2.heap.size tc A T l.length _ RD.out).mono ?_
  rintro e w3 ⟨vi, rfl, hi, hr, hb3⟩
  have B4 := Lib.hid (B3.out.trans hb3)
  have R4 : Hid (Box w3 w.heap.size [.slice none 0 0, .int .i64 0, .slice none 0 0]) := R2.out.below B4.out (by omega)
  have B5 := Lib.hid (B2.out.trans (B4.out.mono (by omega)))
  change ItsV w3 (w2.heap.size + 1) vi (itemsT T l.length).1 at hi
  change Rd w3 w2.heap.size A tc T l.length (itemsT T l.length).2.1 (itemsT T l.length).2.2 at hr
  obtain ⟨Q, hQ⟩ : ∃ Q, Q = itemsT T l.length := ⟨_, rfl⟩
  rw [← hQ] at hi hr HASM HEA0 HFW0 HNB
  obtain ⟨A4, c4, rfl⟩ := hi.form
  have HI := Lib.hid hi
  have HR := Lib.hid hr
  have hsz3 : w2.heap.size < w3.heap.size := hr.lt
  have c3 := hr.1.cell (k := 3) rfl
  clear hi hr hb3 hQ
  by_cases hbad : 0 ≤ Q.2.2
  ·have q1 : decide (0 ≤ Q.2.2) = true := decide_eq_true hbad
   have HB : Hid (Z = .bad Q.2.2.toNat 5) := by show _ = _; rw [HASM.out, if_pos hbad]
   have HBD := Lib.hid hbad
   have r0 := R4.out.cell (k := 0) rfl
   have r1 := R4.out.cell (k := 1) rfl
   have r2 := R4.out.cell (k := 2) rfl
   have g0 := R4.out.frozen 0
   have g1 := R4.out.frozen 1
   have g2 := R4.out.frozen 2
   clear hbad
   go_wp2_with fail
   obtain ⟨qn, hqn⟩ : ∃ qn : Nat, Q.2.2 = (qn : Int) := ⟨Q.2.2.toNat, by have := HBD.out; omega⟩
   have fS : w3.drew.cell? ⟨w2.heap.size, 3, none⟩ = some (.int .i64 (qn : Int)) := by rw [← hqn]; exact c3
   have HB7 : Hid (Z = .bad qn 5) := by show _ = _; rw [HB.out, hqn]; simp
   clear hqn
   have hBX : w.heap.size ≤ w3.drew.heap.size := by show w.heap.size ≤ w3.heap.size; omega
   refine wp_region_lin [(0, true), (1, true), (2, true), (3, true), (4, true), (5, false), (6, true), (7, true)] (by kernel_rfl) (by kernel_rfl) rfl (by kernel_rfl) (fun y => y.cell? ⟨w2.heap.size, 3, none⟩ = some (.int .i64 (qn : Int))) ?_
   simp only [List.map_cons, List.map_nil, List.getElem?_toArray, List.getElem?_cons_succ, List.getElem?_cons_zero]
   iterate 5 (refine lin_take (v := ?_) (by exact fS) (by rfl) ?_ ?_; rotate_left; (intro y hy; (try dsimp only at hy); go_simp; try (with_reducible rfl)); (try simp only [Act.put, List.setIfInBounds_toArray, List.set_cons_zero, List.set_cons_succ]))
   refine lin_put_box (by exact fS) (by rfl) 26 (.tmp 2) (.tmp 40) rfl w.heap.size 0 [.slice none 0 0, .int .i64 0, .slice none 0 0] rfl rfl [.slice none 0 0, .int .i64 0, .slice none 0 0] (by exact R4.out) (Nat.le_refl _) 3 (by kernel_rfl) rfl zp_one (fun y hy hg => grown_keeps hg (by show w2.heap.size < w3.heap.size; exact hsz3) (by omega) (by exact fS)) ?_
   intro yz hbz hgz
   rw [splice_whole _ _ rfl] at hbz
   have fZ := grown_keeps hgz (by show w2.heap.size < w3.heap.size; exact hsz3) (by omega) (by exact fS)
   (try simp only [Act.put, List.setIfInBounds_toArray, List.set_cons_zero, List.set_cons_succ])
   iterate 2 (refine lin_take (v := ?_) fZ (by rfl) ?_ ?_; rotate_left; (intro y hy; (try dsimp only at hy); go_simp; try (with_reducible rfl)); (try simp only [Act.put, List.setIfInBounds_toArray, List.set_cons_zero, List.set_cons_succ]))
   refine lin_done ?_
   have r0 := hbz.cell (k := 0) rfl
   have r1 := hbz.cell (k := 1) rfl
   have r2 := hbz.cell (k := 2) rfl
   have HBZ := Lib.hid (Below.grown (B5.out.drew) hgz (by first | exact hBX | omega) (fun i hi => by injection hi with hi; omega))
   clear hgz fZ hbz
   go_wp2_with fail
   refine bodyPost_ret (v := .tuple #[.agg #[.slice none 0 0, .int .i64 0, .slice none 0 0], .int .i64 (qn : Int), .int .i64 5]) (by simp [results, Tryd.results7, go_sem, r0, r1, r2]) rfl ⟨ReadOut.bad HB7.out rfl, HBZ.out⟩
  ·have q1 : decide (0 ≤ Q.2.2) = false := decide_eq_false hbad
   have HB : Hid (Z = endZ (layP Q.1 [] Q.1 ⟨[], 0, []⟩)) := by show _ = _; rw [HASM.out, if_neg hbad]
   have hneg : Q.2.2 < 0 := by omega
   clear hbad
   go_wp2_with fail
   have HEA := Lib.hid (HEA0.out hneg)
   have HFW := Lib.hid (HFW0.out hneg)
   obtain ⟨its, i1, i2, i3⟩ := HI.out
   have HI1 := Lib.hid i1
   have HI2 := Lib.hid i2
   have HI3 := Lib.hid i3
   have A0 : Hid (AsS w3 (w3.alloc (.cells #[.slice none 0 0, .int .i64 0, .slice none 0 0] 26)) w3.heap.size (.slice none 0 0) (.slice none 0 0) ⟨[], 0, []⟩) :=
    ⟨(Kept.refl w3).alloc _, Box.new w3 [.slice none 0 0, .int .i64 0, .slice none 0 0] _, World.ownsRow_nil _ _ _ _, World.ownsRow_nil _ _ _ _, Nat.le_refl _⟩
   obtain ⟨PB, hPB⟩ : ∃ PB, PB = w3.heap.size := ⟨_, rfl⟩
   rw [← hPB] at A0 ⊢
   have HAT := Lib.hid (fun k x (h : Q.1[k]? = some x) p => layP_at (all := Q.1) h p)
   have HEND := Lib.hid (fun p => (show layP Q.1 (Q.1.take Q.1.length) (Q.1.drop Q.1.length) p = .ok p by rw [List.drop_length]; rfl))
   clear hneg q1 c3 i1 i2 i3 hPB HEA0 HFW0 HASM
   generalize w3.alloc (.cells #[.slice none 0 0, .int .i64 0, .slice none 0 0] 26) = Y0 at *
   generalize hN : Q.1.length = N at *
   have HN := Lib.hid hN
   clear hN
   go_loopw [11, 12] (fun nn ii wl => ∃ (k : Nat) (p : Prog) (vc vd : Value), k ≤ N ∧ nn = .int .i64 (p.code.length : Int) ∧ ii = .int .i64 (k : Int) ∧ AsS w3 wl PB vc vd p ∧ layP Q.1 [] Q.1 ⟨[], 0, []⟩ = layP Q.1 (Q.1.take k) (Q.1.drop k) p ∧ p.code.length ≤ k ∧ p.data.length + dls (Q.1.drop k) ≤ T.length) (fun _ ii _ => N - (intOf ii).toNat)
   case atStart => exact ⟨0, ⟨[], 0, []⟩, _, _, Nat.zero_le _, rfl, rfl, A0.out, by rw [List.take_zero, List.drop_zero], Nat.le_refl _, by rw [List.drop_zero]; have := HFW.out; simp; omega⟩
   case round =>
    obtain ⟨k, p, vc, vd, hk, rfl, rfl, ha, hlay, hcl, hdl⟩ := hrel
    have HA := Lib.hid ha
    have HLAY := Lib.hid hlay
    have HCL := Lib.hid hcl
    have HDL := Lib.hid hdl
    clear ha hlay hcl hdl A0
    by_cases hlt : k < N
    ·have hNT := HN.out
     have hIT := HI2.out
     obtain ⟨x, hx⟩ : ∃ x, Q.1[k]? = some x := ⟨_, List.getElem?_eq_getElem (by omega)⟩
     obtain ⟨z, hz⟩ : ∃ z, its[k]? = some z := ⟨_, List.getElem?_eq_getElem (by omega)⟩
     obtain ⟨⟨e1, e2, e3, e4, e5, e6⟩, o1, o2⟩ := HI3.out k z x hz hx
     obtain ⟨qs, hof⟩ := HEA.out x (List.mem_of_getElem? hx)
     have hlx := HLAY.out
     rw [HAT.out k x hx p] at hlx
     have HDX := Lib.hid (dls_at hx)
     have hown := HI1.out
     rw [hIT] at hown
     obtain ⟨g, cap, hv, _, hgz⟩ := own_form hown (by omega)
     injection hv with hv1 hv2 hv3
     subst hv1 hv3
     have hc : ∀ j u, j < 12 → (itL z)[j]? = some u → wr.cell? ⟨g, k * 12 + j, none⟩ = some u := fun j u hj hu => by
      have := Row.item (Row.of_own hown) hz hj hu
      rw [Nat.zero_add] at this
      exact HA.out.kept.cell hgz this
     have a0 := hc 0 _ (by omega) rfl
     have a1 := hc 1 _ (by omega) rfl
     have a2 := hc 2 _ (by omega) rfl
     have a3 := hc 3 _ (by omega) rfl
     have a4 := hc 4 _ (by omega) rfl
     have a5 := hc 5 _ (by omega) rfl
     have a6 := hc 6 _ (by omega) rfl
     have a7 := hc 7 _ (by omega) rfl
     have a8 := hc 8 _ (by omega) rfl
     have a9 := hc 9 _ (by omega) rfl
     have a10 := hc 10 _ (by omega) rfl
     have a11 := hc 11 _ (by omega) rfl
     rw [e1, Nat.add_zero] at a0
     rw [e2] at a1
     rw [e3] at a2
     rw [e4] at a3 a4 a5 a6 a7
     rw [e5] at a8
     rw [e6] at a9
     have HLX := Lib.hid hlx
     have j0 : (0 : Int) ≤ k := by omega
     have j1 : (k : Int) < N := by omega
     have hgr : g < wr.heap.size := by have := HA.out.kept.size; omega
     have hpb := HA.out.box.lt
     have HJ := Lib.hid (fun (j : Nat) (zj : It) (jj : Nat) (u : Value) (h1 : its[j]? = some zj) (h2 : jj < 12) (h3 : (itL zj)[jj]? = some u) => (by have := Row.item (Row.of_own hown) h1 h2 h3; rwa [Nat.zero_add] at this : w3.cell? ⟨g, j * 12 + jj, none⟩ = some u))
     have HROW := Lib.hid (Row.of_own hown)
     clear hlx hc hown e1 e2 e3 e4 e5 e6 hz hx hv2 hNT hIT
     obtain ⟨Aa, ca, hza⟩ := (Row.of_own o2).form
     rw [hza] at o2 a11
     rcases hof with ⟨hk1, a, ha, rfl⟩ | ⟨hk1, py, rfl, hy, hat, hin, hu⟩ | ⟨hk1, a, kk, rfl, hnum⟩ | ⟨hk1, ms, bs, rfl, hl2, hms, hbs⟩
     ·-- a label
      rw [hk1] at a0
      rw [ha] at a1
      obtain ⟨An, cn, hzn⟩ := (Row.of_own o1).form
      rw [hzn] at o1 a10
      have HBD := Lib.hid (show layP Q.1 [] Q.1 ⟨[], 0, []⟩ = if hasP x.label (Q.1.take k) = true then .bad a 6 else layP Q.1 (Q.1.take (k + 1)) (Q.1.drop (k + 1)) p by rw [HLX.out, if_pos hk1, ha]; rfl)
      have hdl0 : dl x = 0 := by unfold dl; rw [hk1]; rfl
      have HXB : Hid (Box (wr.alloc (.cells (itC 1 (a : Int) x (.string (txt x.use)) x.useAt (.slice An x.nums.length cn) (.slice Aa x.ats.length ca)).toArray 68)) wr.heap.size (itC 1 (a : Int) x (.string (txt x.use)) x.useAt (.slice An x.nums.length cn) (.slice Aa x.ats.length ca))) := Box.new wr _ _
      have HAX : Hid (AsS w3 (wr.alloc (.cells (itC 1 (a : Int) x (.string (txt x.use)) x.useAt (.slice An x.nums.length cn) (.slice Aa x.ats.length ca)).toArray 68)) PB vc vd p) := HA.out.below ((Below.refl _ _).alloc (Nat.le_refl _) _)
      clear o1 o2 hzn hza hk1 ha
      go_wp2_with fail
      change Code.wp _ _ _ _ (wr.alloc (.cells (itC 1 (a : Int) x (.string (txt x.use)) x.useAt (.slice An x.nums.length cn) (.slice Aa x.ats.length ca)).toArray 68))
      obtain ⟨XB, hXB⟩ : ∃ XB, XB = wr.heap.size := ⟨_, rfl⟩
      have hxw : w3.heap.size ≤ XB := by rw [hXB]; exact HA.out.kept.size
      rw [← hXB] at HXB ⊢
      clear hXB a0 a1 a2 a3 a4 a5 a6 a7 a8 a9 a10 a11
      generalize wr.alloc (.cells (itC 1 (a : Int) x (.string (txt x.use)) x.useAt (.slice An x.nums.length cn) (.slice Aa x.ats.length ca)).toArray 68) = W1 at *
      have hxlt := HXB.out.lt
      have cx1 : W1.cell? ⟨XB, 1, none⟩ = some (.int .i64 (a : Int)) := HXB.out.cell (k := 1) rfl
      have cx2 : W1.cell? ⟨XB, 2, none⟩ = some (.string (txt x.label)) := HXB.out.cell (k := 2) rfl
      have HRX : Hid (Box W1 w.heap.size [.slice none 0 0, .int .i64 0, .slice none 0 0]) := R4.out.below HAX.out.kept (by omega)
      have HBX := Lib.hid (B5.out.trans (HAX.out.kept.mono (by omega)))
      have hBX : w.heap.size ≤ W1.heap.size := by omega
      have HH0 := Lib.hid (show hasP x.label (Q.1.take k) = hasP x.label ((Q.1.take k).drop 0) by rw [List.drop_zero])
      have HHA := Lib.hid (fun (j : Nat) (y : ItP) (hjk : j < k) (h : Q.1[j]? = some y) => hasP_at (s := x.label) hjk h)
      have HHE := Lib.hid (fun (j : Nat) (h : k ≤ j) => hasP_end x.label Q.1 h)
      have hkN : (k : Int) < N := by omega
      have hN2 : (N : Int) ≤ 20000 := by have h1 := HNB.out; have h2 := HTL.out; have h3 := HLL.out; omega
      have HXL := Lib.hid (fun (y : ItP) => txt_eqQ y.label x.label)
      generalize txt x.label = XL at *
      go_loopw [14] (fun jj wx => ∃ j m : Nat, j ≤ k ∧ jj = .int .i64 j ∧ wx = W1.drewN m ∧ hasP x.label (Q.1.take k) = hasP x.label ((Q.1.take k).drop j)) (fun jj _ => k - (intOf jj).toNat)
      case atStart => exact ⟨0, 0, Nat.zero_le _, rfl, rfl, HH0.out⟩
      case round =>
       obtain ⟨j, m, hj, rfl, rfl, hh⟩ := hrel
       have HH := Lib.hid hh
       clear hh
       by_cases hjk : j < k
       ·have hNT := HN.out
        have hIT := HI2.out
        obtain ⟨y, hy⟩ : ∃ y, Q.1[j]? = some y := ⟨_, List.getElem?_eq_getElem (by omega)⟩
        obtain ⟨zj, hzj⟩ : ∃ z, its[j]? = some z := ⟨_, List.getElem?_eq_getElem (by omega)⟩
        obtain ⟨⟨q1, _, q3, _⟩, _, _⟩ := HI3.out j zj y hzj hy
        have HST := Lib.hid (HH.out.trans (HHA.out j y hjk hy))
        have c0 : W1.cell? ⟨g, j * 12, none⟩ = some (.int .i64 y.kind) := by
         have := HAX.out.kept.cell hgz (HJ.out j zj 0 _ hzj (by omega) rfl)
         rwa [q1, Nat.add_zero] at this
        have c2 : W1.cell? ⟨g, j * 12 + 2, none⟩ = some (.string (txt y.label)) := by
         have := HAX.out.kept.cell hgz (HJ.out j zj 2 _ hzj (by omega) rfl)
         rwa [q3] at this
        have heq := HXL.out y
        have g0 : (0 : Int) ≤ j := by omega
        have g1 : (j : Int) < k := by omega
        have g2 : (j : Int) < N := by omega
        clear hNT hIT hy hzj q1 q3
        by_cases hy1 : y.kind = 1
        ·rw [hy1] at c0
         by_cases hyl : y.label = x.label
         ·have HB := Lib.hid (show Z = .bad a 6 by
           have h1 : hasP x.label (Q.1.take k) = true := by rw [HST.out, decide_eq_true ⟨hy1, hyl⟩]; rfl
           rw [HB.out, HBD.out, if_pos h1]; rfl)
          have he : ((txt y.label).toList == XL.toList) = true := by rw [heq]; exact decide_eq_true hyl
          clear heq hy1 hyl HST HHA HHE HH0 HH HXL
          generalize txt y.label = YL at *
          go_wp2_with fail
          go_quiet (fail)
          go_wp2_with fail
          refine wp_region_lin [(0, true), (1, true), (2, true), (3, false), (4, true), (5, true)] (by kernel_rfl) (by kernel_rfl) rfl (by kernel_rfl) (fun y => y.cell? ⟨XB, 1, none⟩ = some (.int .i64 (a : Int))) ?_
          simp only [List.map_cons, List.map_nil, List.getElem?_toArray, List.getElem?_cons_succ, List.getElem?_cons_zero]
          iterate 3 (refine lin_take (v := ?_) (by exact cx1) (by rfl) ?_ ?_; rotate_left; (intro y hy; (try dsimp only at hy); go_simp; try (with_reducible rfl)); (try simp only [Act.put, List.setIfInBounds_toArray, List.set_cons_zero, List.set_cons_succ]))
          refine lin_put_box (by exact cx1) (by rfl) 26 (.tmp 2) (.tmp 81) rfl w.heap.size 0 [.slice none 0 0, .int .i64 0, .slice none 0 0] rfl rfl [.slice none 0 0, .int .i64 0, .slice none 0 0] (by exact HRX.out) (Nat.le_refl _) 3 (by kernel_rfl) rfl zp_one (fun y hy hg => grown_keeps hg hxlt (by omega) (by exact cx1)) ?_
          intro yz hbz hgz
          rw [splice_whole _ _ rfl] at hbz
          have fZ := grown_keeps hgz hxlt (by omega) (by exact cx1)
          (try simp only [Act.put, List.setIfInBounds_toArray, List.set_cons_zero, List.set_cons_succ])
          iterate 2 (refine lin_take (v := ?_) fZ (by rfl) ?_ ?_; rotate_left; (intro y hy; (try dsimp only at hy); go_simp; try (with_reducible rfl)); (try simp only [Act.put, List.setIfInBounds_toArray, List.set_cons_zero, List.set_cons_succ]))
          refine lin_done ?_
          have r0 := hbz.cell (k := 0) rfl
          have r1 := hbz.cell (k := 1) rfl
          have r2 := hbz.cell (k := 2) rfl
          have HBZ := Lib.hid (Below.grown (Below.drew (Below.drewN_ (Below.drewN_ HBX.out _) _)) hgz (by first | exact hBX | omega) (fun i hi => by injection hi with hi; omega))
          clear hgz fZ hbz
          go_wp2_with fail
          refine bodyPost_ret (v := .tuple #[.agg #[.slice none 0 0, .int .i64 0, .slice none 0 0], .int .i64 (a : Int), .int .i64 6]) (by simp [results, Tryd.results7, go_sem, r0, r1, r2]) rfl ⟨ReadOut.bad HB.out rfl, HBZ.out⟩
         ·have HE := Lib.hid (HST.out.trans (by rw [decide_eq_false (fun h => hyl h.2), Bool.false_or]))
          have he : ((txt y.label).toList == XL.toList) = false := by rw [heq]; exact decide_eq_false hyl
          clear heq hy1 hyl HST
          generalize txt y.label = YL at *
          go_wp2_with fail
          go_quiet (fail)
          go_wp2_with fail
          go_roundw
          case rel => exact ⟨j + 1, _, by omega, by go_num, rfl, HE.out⟩
          case measure => simp only [intOf]; omega
        ·have HE := Lib.hid (HST.out.trans (by rw [decide_eq_false (fun h => hy1 h.1), Bool.false_or]))
         have q0 : (y.kind == 1) = false := by simpa using hy1
         clear heq hy1 HST
         go_wp2_with fail
         go_quiet (fail)
         go_wp2_with fail
         go_roundw
         case rel => exact ⟨j + 1, _, by omega, by go_num, rfl, HE.out⟩
         case measure => simp only [intOf]; omega
       ·have HNO := Lib.hid (show hasP x.label (Q.1.take k) = false by rw [HH.out, HHE.out j (by omega)])
        have HAZ := Lib.hid (HAX.out.below (Below.drewN_ (Below.refl W1.heap.size W1) m))
        have HLZ := Lib.hid (show layP Q.1 [] Q.1 ⟨[], 0, []⟩ = layP Q.1 (Q.1.take (k + 1)) (Q.1.drop (k + 1)) p by rw [HBD.out, HNO.out]; rfl)
        have g1 : ¬ (j : Int) < k := by omega
        clear HH HHA HHE HH0 HXL
        go_wp2_with fail
        go_roundw
        case rel => exact ⟨k + 1, p, vc, vd, by omega, rfl, by go_num, HAZ.out, HLZ.out, by have := HCL.out; omega, by have h1 := HDL.out; have h2 := HDX.out; rw [hdl0] at h2; omega⟩
        case measure => simp only [intOf]; omega
     ·-- an instruction
      rw [hk1] at a0
      rw [hat] at a1
      obtain ⟨An, cn, hzn⟩ := (Row.of_own o1).form
      rw [hzn] at o1 a10
      obtain ⟨i0, hi, hz0, hz1, hz2⟩ := info_parts info_ins8
      have HI := Lib.hid hi
      have HZ0 := Lib.hid hz0
      have HZ1 := Lib.hid hz1
      have HZ2 := Lib.hid hz2
      clear hi hz0 hz1 hz2
      have hdl0 : dl x = 0 := by unfold dl; rw [hk1]; rfl
      have hkN : (k : Int) < N := by omega
      have hN2 : (N : Int) ≤ 20000 := by have h1 := HNB.out; have h2 := HTL.out; have h3 := HLL.out; omega
      have hpc : p.code.length ≤ 20000 := by have := HCL.out; omega
      have hpcz : (p.code.length : Int) ≤ 20000 := by omega
      by_cases hu0 : x.use = []
      ·have h8 : txt x.use = ⟨#[]⟩ := by rw [hu0]
       rw [h8] at a8
       have HBD := Lib.hid (show layP Q.1 [] Q.1 ⟨[], 0, []⟩ = if rightB x.ins = true then layP Q.1 (Q.1.take (k + 1)) (Q.1.drop (k + 1)) { p with code := p.code ++ [x.ins] } else .bad py.at_ 8 by rw [HLX.out, if_neg (by rw [hk1]; decide), if_pos hk1, if_pos hu0, hat]; rfl)
       have UA := Lib.hid (rfl : x.useAt = x.useAt)
       have HXB : Hid (Box (wr.alloc (.cells (itC 2 (py.at_ : Int) x (.string ⟨#[]⟩) x.useAt (.slice An x.nums.length cn) (.slice Aa x.ats.length ca)).toArray 68)) wr.heap.size (itC 2 (py.at_ : Int) x (.string ⟨#[]⟩) x.useAt (.slice An x.nums.length cn) (.slice Aa x.ats.length ca))) := Box.new wr _ _
       have HAX : Hid (AsS w3 (wr.alloc (.cells (itC 2 (py.at_ : Int) x (.string ⟨#[]⟩) x.useAt (.slice An x.nums.length cn) (.slice Aa x.ats.length ca)).toArray 68)) PB vc vd p) := HA.out.below ((Below.refl _ _).alloc (Nat.le_refl _) _)
       clear o1 o2 hzn hza hk1 hat hin hu h8 hu0
       go_wp2_with fail
       change Calls _ _ _ (wr.alloc (.cells (itC 2 (py.at_ : Int) x (.string ⟨#[]⟩) x.useAt (.slice An x.nums.length cn) (.slice Aa x.ats.length ca)).toArray 68)) _
       obtain ⟨XB, hXB⟩ : ∃ XB, XB = wr.heap.size := ⟨_, rfl⟩
       have hxw : w3.heap.size ≤ XB := by rw [hXB]; exact HA.out.kept.size
       have hcx : vc.ownBlock ≠ some XB := fun e => by have := (HA.out.code.lt _ e).2; omega
       have hdx : vd.ownBlock ≠ some XB := fun e => by have := (HA.out.data.lt _ e).2; omega
       have hpx : PB < XB := by omega
       rw [← hXB] at HXB ⊢
       clear hXB a0 a1 a2 a3 a4 a5 a6 a7 a8 a9 a10 a11
       generalize wr.alloc (.cells (itC 2 (py.at_ : Int) x (.string ⟨#[]⟩) x.useAt (.slice An x.nums.length cn) (.slice Aa x.ats.length ca)).toArray 68) = W1 at *
       have hxlt := HXB.out.lt
       refine (rightIns_any x.ins _).mono ?_; rintro e w5 ⟨rfl, hb5⟩
       have HA5 := Lib.hid (HAX.out.below hb5)
       have HX5 := Lib.hid (HXB.out.below hb5 HXB.out.lt)
       have hx5 := HX5.out.lt
       have hpb5 := HA5.out.box.lt
       clear hb5 HAX HXB
       cases hri : rightB x.ins
       ·have HB := Lib.hid (show Z = .bad py.at_ 8 by rw [HB.out, HBD.out, hri]; rfl)
        have HRX : Hid (Box w5 w.heap.size [.slice none 0 0, .int .i64 0, .slice none 0 0]) := R4.out.below HA5.out.kept (by omega)
        have HBX := Lib.hid (B5.out.trans (HA5.out.kept.mono (by omega)))
        have h3X := HA5.out.kept.size
        have hBX : w.heap.size ≤ w5.heap.size := by omega
        have cx1 : w5.cell? ⟨XB, 1, none⟩ = some (.int .i64 (py.at_ : Int)) := HX5.out.cell (k := 1) rfl
        clear hri
        go_wp2_with fail
        refine wp_region_lin [(0, true), (1, true), (2, true), (3, false), (4, true), (5, true)] (by kernel_rfl) (by kernel_rfl) rfl (by kernel_rfl) (fun y => y.cell? ⟨XB, 1, none⟩ = some (.int .i64 (py.at_ : Int))) ?_
        simp only [List.map_cons, List.map_nil, List.getElem?_toArray, List.getElem?_cons_succ, List.getElem?_cons_zero]
        iterate 3 (refine lin_take (v := ?_) (by exact cx1) (by rfl) ?_ ?_; rotate_left; (intro y hy; (try dsimp only at hy); go_simp; try (with_reducible rfl)); (try simp only [Act.put, List.setIfInBounds_toArray, List.set_cons_zero, List.set_cons_succ]))
        refine lin_put_box (by exact cx1) (by rfl) 26 (.tmp 2) (.tmp 107) rfl w.heap.size 0 [.slice none 0 0, .int .i64 0, .slice none 0 0] rfl rfl [.slice none 0 0, .int .i64 0, .slice none 0 0] (by exact HRX.out) (Nat.le_refl _) 3 (by kernel_rfl) rfl zp_one (fun y hy hg => grown_keeps hg hx5 (by omega) (by exact cx1)) ?_
        intro yz hbz hgz
        rw [splice_whole _ _ rfl] at hbz
        have fZ := grown_keeps hgz hx5 (by omega) (by exact cx1)
        (try simp only [Act.put, List.setIfInBounds_toArray, List.set_cons_zero, List.set_cons_succ])
        iterate 2 (refine lin_take (v := ?_) fZ (by rfl) ?_ ?_; rotate_left; (intro y hy; (try dsimp only at hy); go_simp; try (with_reducible rfl)); (try simp only [Act.put, List.setIfInBounds_toArray, List.set_cons_zero, List.set_cons_succ]))
        refine lin_done ?_
        have r0 := hbz.cell (k := 0) rfl
        have r1 := hbz.cell (k := 1) rfl
        have r2 := hbz.cell (k := 2) rfl
        have HBZ := Lib.hid (Below.grown (Below.drew HBX.out) hgz (by first | exact hBX | omega) (fun i hi => by injection hi with hi; omega))
        clear hgz fZ hbz
        go_wp2_with fail
        refine bodyPost_ret (v := .tuple #[.agg #[.slice none 0 0, .int .i64 0, .slice none 0 0], .int .i64 (py.at_ : Int), .int .i64 8]) (by simp [results, Tryd.results7, go_sem, r0, r1, r2]) rfl ⟨ReadOut.bad HB.out rfl, HBZ.out⟩
       ·have HLZ := Lib.hid (HBD.out.trans (if_pos hri))
        obtain ⟨Ac, cc, rfl⟩ := (Row.of_own HA5.out.code).form
        have b0 := HA5.out.box.cell (k := 0) rfl
        have bf := HA5.out.box.frozen 0
        have e3 : w5.cell? ⟨XB, 3, none⟩ = some (.int .i64 x.ins.op) := HX5.out.cell (k := 3) rfl
        have e4 : w5.cell? ⟨XB, 4, none⟩ = some (.int .i64 x.ins.d) := HX5.out.cell (k := 4) rfl
        have e5 : w5.cell? ⟨XB, 5, none⟩ = some (.int .i64 x.ins.a) := HX5.out.cell (k := 5) rfl
        have e6 : w5.cell? ⟨XB, 6, none⟩ = some (.int .i64 x.ins.b) := HX5.out.cell (k := 6) rfl
        have e7 : w5.cell? ⟨XB, 7, none⟩ = some (.int .i64 x.ins.imm) := HX5.out.cell (k := 7) rfl
        clear hri
        go_wp2_with (at_builtin; refine wpList_append_own _ rfl (.tmp 111) (.tmp 114) 23 rfl (PB + 1) 38 i0 _ 5 40 Tryd.underlying23 HI.out HZ0.out HZ1.out HZ2.out rfl (by omega) _ p.code.length (codeCells p.code) rfl (HA5.out.code.alloc _) ⟨_, 0, none⟩ 1 1 (insCells x.ins) rfl rfl (new_cells _ #[.int .i64 x.ins.op, .int .i64 x.ins.d, .int .i64 x.ins.a, .int .i64 x.ins.b, .int .i64 x.ins.imm] _ _ rfl) (insCells_oneA _) (by unfold maxLen; omega) (by omega) (by simp; omega) ?_; intro v5 y5 hO5 hg5 _; have HN5 := Lib.hid (HA5.out.coded x.ins hO5 hg5); obtain ⟨A5, c5, rfl⟩ := (Row.of_own hO5).form; have d5 := HN5.out.2.cell (k := 0) rfl; have df5 := HN5.out.2.frozen 0; have dl5 := HN5.out.2.lt; clear hO5 hg5)
        go_roundw
        case rel => exact ⟨k + 1, { p with code := p.code ++ [x.ins] }, _, vd, by omega, by simp, by go_num, HN5.out.1, HLZ.out, by have := HCL.out; simp; omega, by have h1 := HDL.out; have h2 := HDX.out; rw [hdl0] at h2; simp; omega⟩
        case measure => simp only [intOf]; omega
      ·obtain ⟨ut, hut⟩ : ∃ ut : Nat, x.useAt = (ut : Int) := by
        by_cases hkd : py.target.kind = 1
        ·exact ⟨_, (hu.1 hkd).2.1⟩
        ·exact absurd (hu.2 hkd) hu0
       obtain ⟨PL, hPL⟩ : ∃ PL, PL = placeP x.use Q.1 0 := ⟨_, rfl⟩
       have HBD0 := Lib.hid (show layP Q.1 [] Q.1 ⟨[], 0, []⟩ = if PL < 0 then .bad ut 6 else if rightB ({ x.ins with imm := PL - p.code.length } : Ins) = true then layP Q.1 (Q.1.take (k + 1)) (Q.1.drop (k + 1)) { p with code := p.code ++ [({ x.ins with imm := PL - p.code.length } : Ins)] } else .bad py.at_ 8 by rw [HLX.out, if_neg (by rw [hk1]; decide), if_pos hk1, if_neg hu0, ← hPL, hut, hat]; rfl)
       have HPL : Hid (placeG x.use its 0 = PL) := by
        show _ = _
        rw [hPL]
        exact place_eq x.use its Q.1 (by rw [HI2.out, HN.out]) (fun j z q hz hq => by obtain ⟨⟨q1, _, q3, _⟩, _, _⟩ := HI3.out j z q hz hq; exact ⟨q1, q3⟩) 0
       have HPB2 : Hid (-1 ≤ PL ∧ PL ≤ (N : Int)) := by
        have := placeP_le x.use Q.1 0
        show _ ∧ _
        rw [hPL]; have h2 := HN.out; omega
       have h8a : x.use.isEmpty = false := by
        cases hxu : x.use with
        | nil => exact absurd hxu hu0
        | cons _ _ => rfl
       have h8b : (!x.use.isEmpty) = true := by rw [h8a]; rfl
       have HXB : Hid (Box (wr.alloc (.cells (itC 2 (py.at_ : Int) x (.string (txt x.use)) (ut : Int) (.slice An x.nums.length cn) (.slice Aa x.ats.length ca)).toArray 68)) wr.heap.size (itC 2 (py.at_ : Int) x (.string (txt x.use)) (ut : Int) (.slice An x.nums.length cn) (.slice Aa x.ats.length ca))) := Box.new wr _ _
       have HAX : Hid (AsS w3 (wr.alloc (.cells (itC 2 (py.at_ : Int) x (.string (txt x.use)) (ut : Int) (.slice An x.nums.length cn) (.slice Aa x.ats.length ca)).toArray 68)) PB vc vd p) := HA.out.below ((Below.refl _ _).alloc (Nat.le_refl _) _)
       clear o1 o2 hzn hza hk1 hat hin hu hPL hu0
       rw [hut] at a9
       go_wp2_with fail
       change Calls _ _ _ (wr.alloc (.cells (itC 2 (py.at_ : Int) x (.string (txt x.use)) (ut : Int) (.slice An x.nums.length cn) (.slice Aa x.ats.length ca)).toArray 68)) _
       obtain ⟨XB, hXB⟩ : ∃ XB, XB = wr.heap.size := ⟨_, rfl⟩
       have hxw : w3.heap.size ≤ XB := by rw [hXB]; exact HA.out.kept.size
       have hcx : vc.ownBlock ≠ some XB := fun e => by have := (HA.out.code.lt _ e).2; omega
       have hdx : vd.ownBlock ≠ some XB := fun e => by have := (HA.out.data.lt _ e).2; omega
       have hpx : PB < XB := by omega
       rw [← hXB] at HXB ⊢
       clear hXB a0 a1 a2 a3 a4 a5 a6 a7 a8 a9 a10 a11
       generalize wr.alloc (.cells (itC 2 (py.at_ : Int) x (.string (txt x.use)) (ut : Int) (.slice An x.nums.length cn) (.slice Aa x.ats.length ca)).toArray 68) = W1 at *
       have hxlt := HXB.out.lt
       have hpl := refPlace_any (some ⟨g, 0, none⟩) c4 its x.use W1 (by rw [HI2.out]; exact HAX.out.kept.row HROW.out) (by rw [HI2.out]; omega)
       rw [HI2.out, HPL.out] at hpl
       have HPLC := Lib.hid hpl
       clear hpl
       refine HPLC.out.mono ?_; rintro e w4 ⟨rfl, rfl⟩
       clear HPLC HPL
       by_cases hpn : PL < 0
       ·have HB := Lib.hid (show Z = .bad ut 6 by rw [HB.out, HBD0.out, if_pos hpn]; rfl)
        have HRX : Hid (Box W1 w.heap.size [.slice none 0 0, .int .i64 0, .slice none 0 0]) := R4.out.below HAX.out.kept (by omega)
        have HBX := Lib.hid (B5.out.trans (HAX.out.kept.mono (by omega)))
        have h3X := HAX.out.kept.size
        have hBX : w.heap.size ≤ W1.heap.size := by omega
        have cx9 : W1.cell? ⟨XB, 9, none⟩ = some (.int .i64 (ut : Int)) := HXB.out.cell (k := 9) rfl
        go_wp2_with fail
        refine wp_region_lin [(0, true), (1, true), (2, true), (3, false), (4, true), (5, true)] (by kernel_rfl) (by kernel_rfl) rfl (by kernel_rfl) (fun y => y.cell? ⟨XB, 9, none⟩ = some (.int .i64 (ut : Int))) ?_
        simp only [List.map_cons, List.map_nil, List.getElem?_toArray, List.getElem?_cons_succ, List.getElem?_cons_zero]
        iterate 3 (refine lin_take (v := ?_) (by exact cx9) (by rfl) ?_ ?_; rotate_left; (intro y hy; (try dsimp only at hy); go_simp; try (with_reducible rfl)); (try simp only [Act.put, List.setIfInBounds_toArray, List.set_cons_zero, List.set_cons_succ]))
        refine lin_put_box (by exact cx9) (by rfl) 26 (.tmp 2) (.tmp 95) rfl w.heap.size 0 [.slice none 0 0, .int .i64 0, .slice none 0 0] rfl rfl [.slice none 0 0, .int .i64 0, .slice none 0 0] (by exact HRX.out) (Nat.le_refl _) 3 (by kernel_rfl) rfl zp_one (fun y hy hg => grown_keeps hg hxlt (by omega) (by exact cx9)) ?_
        intro yz hbz hgz
        rw [splice_whole _ _ rfl] at hbz
        have fZ := grown_keeps hgz hxlt (by omega) (by exact cx9)
        (try simp only [Act.put, List.setIfInBounds_toArray, List.set_cons_zero, List.set_cons_succ])
        iterate 2 (refine lin_take (v := ?_) fZ (by rfl) ?_ ?_; rotate_left; (intro y hy; (try dsimp only at hy); go_simp; try (with_reducible rfl)); (try simp only [Act.put, List.setIfInBounds_toArray, List.set_cons_zero, List.set_cons_succ]))
        refine lin_done ?_
        have r0 := hbz.cell (k := 0) rfl
        have r1 := hbz.cell (k := 1) rfl
        have r2 := hbz.cell (k := 2) rfl
        have HBZ := Lib.hid (Below.grown (Below.drew HBX.out) hgz (by first | exact hBX | omega) (fun i hi => by injection hi with hi; omega))
        clear hgz fZ hbz
        go_wp2_with fail
        refine bodyPost_ret (v := .tuple #[.agg #[.slice none 0 0, .int .i64 0, .slice none 0 0], .int .i64 (ut : Int), .int .i64 6]) (by simp [results, Tryd.results7, go_sem, r0, r1, r2]) rfl ⟨ReadOut.bad HB.out rfl, HBZ.out⟩
       ·have HBD := Lib.hid (HBD0.out.trans (if_neg hpn))
        have hp0 : 0 ≤ PL := by omega
        have hp1 : PL ≤ 20000 := by have := HPB2.out.2; omega
        have e3 : W1.cell? ⟨XB, 3, none⟩ = some (.int .i64 x.ins.op) := HXB.out.cell (k := 3) rfl
        have e4 : W1.cell? ⟨XB, 4, none⟩ = some (.int .i64 x.ins.d) := HXB.out.cell (k := 4) rfl
        have e5 : W1.cell? ⟨XB, 5, none⟩ = some (.int .i64 x.ins.a) := HXB.out.cell (k := 5) rfl
        have e6 : W1.cell? ⟨XB, 6, none⟩ = some (.int .i64 x.ins.b) := HXB.out.cell (k := 6) rfl
        have e7 : W1.cell? ⟨XB, 7, none⟩ = some (.int .i64 x.ins.imm) := HXB.out.cell (k := 7) rfl
        have f7 := HXB.out.frozen 7
        clear HBD0 hpn
        go_wp2_with fail
        have HX6 : Hid (Box (W1.setCell ⟨XB, 7, none⟩ (.int .i64 (PL - p.code.length))) XB (itC 2 (py.at_ : Int) { x with ins := ({ x.ins with imm := PL - p.code.length } : Ins) } (.string (txt x.use)) (ut : Int) (.slice An x.nums.length cn) (.slice Aa x.ats.length ca))) := HXB.out.setCell 7 _
        have HA6 := Lib.hid (HAX.out.put hpx hcx hdx 7 (.int .i64 (PL - p.code.length)))
        clear HXB HAX e3 e4 e5 e6 e7 f7 hxlt
        generalize W1.setCell ⟨XB, 7, none⟩ (.int .i64 (PL - p.code.length)) = W2 at *
        have HXB := HX6
        have HAX := HA6
        clear HX6 HA6
        refine (rightIns_any ({ x.ins with imm := PL - p.code.length } : Ins) _).mono ?_; rintro e w5 ⟨rfl, hb5⟩
        have HA5 := Lib.hid (HAX.out.below hb5)
        have HX5 := Lib.hid (HXB.out.below hb5 HXB.out.lt)
        have hx5 := HX5.out.lt
        have hpb5 := HA5.out.box.lt
        clear hb5 HAX HXB
        cases hri : rightB ({ x.ins with imm := PL - p.code.length } : Ins)
        ·have HB := Lib.hid (show Z = .bad py.at_ 8 by rw [HB.out, HBD.out, hri]; rfl)
         have HRX : Hid (Box w5 w.heap.size [.slice none 0 0, .int .i64 0, .slice none 0 0]) := R4.out.below HA5.out.kept (by omega)
         have HBX := Lib.hid (B5.out.trans (HA5.out.kept.mono (by omega)))
         have h3X := HA5.out.kept.size
         have hBX : w.heap.size ≤ w5.heap.size := by omega
         have cx1 : w5.cell? ⟨XB, 1, none⟩ = some (.int .i64 (py.at_ : Int)) := HX5.out.cell (k := 1) rfl
         clear hri
         go_wp2_with fail
         refine wp_region_lin [(0, true), (1, true), (2, true), (3, false), (4, true), (5, true)] (by kernel_rfl) (by kernel_rfl) rfl (by kernel_rfl) (fun y => y.cell? ⟨XB, 1, none⟩ = some (.int .i64 (py.at_ : Int))) ?_
         simp only [List.map_cons, List.map_nil, List.getElem?_toArray, List.getElem?_cons_succ, List.getElem?_cons_zero]
         iterate 3 (refine lin_take (v := ?_) (by exact cx1) (by rfl) ?_ ?_; rotate_left; (intro y hy; (try dsimp only at hy); go_simp; try (with_reducible rfl)); (try simp only [Act.put, List.setIfInBounds_toArray, List.set_cons_zero, List.set_cons_succ]))
         refine lin_put_box (by exact cx1) (by rfl) 26 (.tmp 2) (.tmp 107) rfl w.heap.size 0 [.slice none 0 0, .int .i64 0, .slice none 0 0] rfl rfl [.slice none 0 0, .int .i64 0, .slice none 0 0] (by exact HRX.out) (Nat.le_refl _) 3 (by kernel_rfl) rfl zp_one (fun y hy hg => grown_keeps hg hx5 (by omega) (by exact cx1)) ?_
         intro yz hbz hgz
         rw [splice_whole _ _ rfl] at hbz
         have fZ := grown_keeps hgz hx5 (by omega) (by exact cx1)
         (try simp only [Act.put, List.setIfInBounds_toArray, List.set_cons_zero, List.set_cons_succ])
         iterate 2 (refine lin_take (v := ?_) fZ (by rfl) ?_ ?_; rotate_left; (intro y hy; (try dsimp only at hy); go_simp; try (with_reducible rfl)); (try simp only [Act.put, List.setIfInBounds_toArray, List.set_cons_zero, List.set_cons_succ]))
         refine lin_done ?_
         have r0 := hbz.cell (k := 0) rfl
         have r1 := hbz.cell (k := 1) rfl
         have r2 := hbz.cell (k := 2) rfl
         have HBZ := Lib.hid (Below.grown (Below.drew HBX.out) hgz (by first | exact hBX | omega) (fun i hi => by injection hi with hi; omega))
         clear hgz fZ hbz
         go_wp2_with fail
         refine bodyPost_ret (v := .tuple #[.agg #[.slice none 0 0, .int .i64 0, .slice none 0 0], .int .i64 (py.at_ : Int), .int .i64 8]) (by simp [results, Tryd.results7, go_sem, r0, r1, r2]) rfl ⟨ReadOut.bad HB.out rfl, HBZ.out⟩
        ·have HLZ := Lib.hid (HBD.out.trans (if_pos hri))
         obtain ⟨Ac, cc, rfl⟩ := (Row.of_own HA5.out.code).form
         have b0 := HA5.out.box.cell (k := 0) rfl
         have bf := HA5.out.box.frozen 0
         have e3 : w5.cell? ⟨XB, 3, none⟩ = some (.int .i64 x.ins.op) := HX5.out.cell (k := 3) rfl
         have e4 : w5.cell? ⟨XB, 4, none⟩ = some (.int .i64 x.ins.d) := HX5.out.cell (k := 4) rfl
         have e5 : w5.cell? ⟨XB, 5, none⟩ = some (.int .i64 x.ins.a) := HX5.out.cell (k := 5) rfl
         have e6 : w5.cell? ⟨XB, 6, none⟩ = some (.int .i64 x.ins.b) := HX5.out.cell (k := 6) rfl
         have e7 : w5.cell? ⟨XB, 7, none⟩ = some (.int .i64 (PL - p.code.length)) := HX5.out.cell (k := 7) rfl
         clear hri
         go_wp2_with (at_builtin; refine wpList_append_own _ rfl (.tmp 111) (.tmp 114) 23 rfl (PB + 1) 38 i0 _ 5 40 Tryd.underlying23 HI.out HZ0.out HZ1.out HZ2.out rfl (by omega) _ p.code.length (codeCells p.code) rfl (HA5.out.code.alloc _) ⟨_, 0, none⟩ 1 1 (insCells ({ x.ins with imm := PL - p.code.length } : Ins)) rfl rfl (new_cells _ #[.int .i64 x.ins.op, .int .i64 x.ins.d, .int .i64 x.ins.a, .int .i64 x.ins.b, .int .i64 (PL - p.code.length)] _ _ rfl) (insCells_oneA _) (by unfold maxLen; omega) (by omega) (by simp; omega) ?_; intro v5 y5 hO5 hg5 _; have HN5 := Lib.hid (HA5.out.coded ({ x.ins with imm := PL - p.code.length } : Ins) hO5 hg5); obtain ⟨A5, c5, rfl⟩ := (Row.of_own hO5).form; have d5 := HN5.out.2.cell (k := 0) rfl; have df5 := HN5.out.2.frozen 0; have dl5 := HN5.out.2.lt; clear hO5 hg5)
         go_roundw
         case rel => exact ⟨k + 1, { p with code := p.code ++ [({ x.ins with imm := PL - p.code.length } : Ins)] }, _, vd, by omega, by simp, by go_num, HN5.out.1, HLZ.out, by have := HCL.out; simp; omega, by have h1 := HDL.out; have h2 := HDX.out; rw [hdl0] at h2; simp; omega⟩
         case measure => simp only [intOf]; omega
     ·-- a size
      rw [hnum] at o1
      obtain ⟨gn, cn, hzn, _, hgn⟩ := own_form o1 (by simp)
      rw [hzn] at o1 a10
      have n0 : w3.cell? ⟨gn, 0, none⟩ = some (.int .i64 kk) := o1.cellAt 0 (by simp)
      have n0 := HA.out.kept.cell hgn n0
      have hgr2 : gn < wr.heap.size := by have := HA.out.kept.size; omega
      rw [hk1] at a0
      have HK1 := Lib.hid hk1
      have HNU := Lib.hid hnum
      have f1 := HA.out.box.frozen 1
      have b1 := HA.out.box.cell (k := 1) rfl
      have HA2 := Lib.hid (fun o => (HA.out.sized kk).below ((Below.refl _ _).alloc (Nat.le_refl _) o))
      have hN2 : (N : Int) ≤ 20000 := by have h1 := HNB.out; have h2 := HTL.out; have h3 := HLL.out; omega
      clear o1 o2 hk1 hnum hzn hza
      go_wp2_with fail
      go_roundw
      case rel => exact ⟨k + 1, { p with size := kk }, vc, vd, by omega, rfl, by go_num, HA2.out _, by rw [HLX.out, if_neg (by rw [HK1.out]; decide), if_neg (by rw [HK1.out]; decide), if_neg (by rw [HK1.out]; decide), if_pos HK1.out, HNU.out]; rfl, by have := HCL.out; simp; omega, by have := HDL.out; have := HDX.out; simp; omega⟩
      case measure => simp only [intOf]; omega
     ·-- bytes
      subst hms
      rw [hk1] at a0
      obtain ⟨An, cn, hzn⟩ := (Row.of_own o1).form
      rw [hzn] at o1 a10
      obtain ⟨i0, hi, hz0, hz1, hz2⟩ := info_parts info_byte8
      have HI := Lib.hid hi
      have HZ0 := Lib.hid hz0
      have HZ1 := Lib.hid hz1
      have HZ2 := Lib.hid hz2
      clear hi hz0 hz1 hz2
      have hkN : (k : Int) < N := by omega
      have hN2 : (N : Int) ≤ 20000 := by have h1 := HNB.out; have h2 := HTL.out; have h3 := HLL.out; omega
      have hdl0 : dl x = x.nums.length := by unfold dl; rw [hk1, if_pos rfl]
      have hpc : p.data.length + x.nums.length ≤ 20000 := by have h1 := HDL.out; have h2 := HDX.out; have h3 := HTL.out; have h4 := HLL.out; omega
      have HAL := Lib.hid (show x.ats.length = x.nums.length by rw [hbs]; simp [atsI, hl2])
      have HBD := Lib.hid (show layP Q.1 [] Q.1 ⟨[], 0, []⟩ = match badByte x.nums x.ats with | some a => .bad a.toNat 8 | none => layP Q.1 (Q.1.take (k + 1)) (Q.1.drop (k + 1)) { p with data := p.data ++ x.nums } by rw [HLX.out, if_neg (by rw [hk1]; decide), if_neg (by rw [hk1]; decide), if_pos hk1]; rfl)
      have HATS := Lib.hid hbs
      have HON := Lib.hid o1
      have HOA := Lib.hid o2
      have hdx0 : vd.ownBlock ≠ some wr.heap.size := fun e => by have := (HA.out.data.lt _ e).2; omega
      have HXB : Hid (Box (wr.alloc (.cells (itC 3 x.at_ x (.string (txt x.use)) x.useAt (.slice An x.nums.length cn) (.slice Aa x.ats.length ca)).toArray 68)) wr.heap.size (itC 3 x.at_ x (.string (txt x.use)) x.useAt (.slice An x.nums.length cn) (.slice Aa x.ats.length ca))) := Box.new wr _ _
      have HAX : Hid (AsS w3 (wr.alloc (.cells (itC 3 x.at_ x (.string (txt x.use)) x.useAt (.slice An x.nums.length cn) (.slice Aa x.ats.length ca)).toArray 68)) PB vc vd p) := HA.out.below ((Below.refl _ _).alloc (Nat.le_refl _) _)
      clear o1 o2 hzn hza hk1 hbs hl2
      go_wp2_with fail
      change Code.wp _ _ _ _ (wr.alloc (.cells (itC 3 x.at_ x (.string (txt x.use)) x.useAt (.slice An x.nums.length cn) (.slice Aa x.ats.length ca)).toArray 68))
      obtain ⟨XB, hXB⟩ : ∃ XB, XB = wr.heap.size := ⟨_, rfl⟩
      have hxw : w3.heap.size ≤ XB := by rw [hXB]; exact HA.out.kept.size
      have hcx : vc.ownBlock ≠ some XB := fun e => by have := (HA.out.code.lt _ e).2; omega
      have hdx : vd.ownBlock ≠ some XB := fun e => by have := (HA.out.data.lt _ e).2; omega
      have hpx : PB < XB := by omega
      rw [← hXB] at HXB ⊢
      clear hXB a0 a1 a2 a3 a4 a5 a6 a7 a8 a9 a10 a11
      generalize wr.alloc (.cells (itC 3 x.at_ x (.string (txt x.use)) x.useAt (.slice An x.nums.length cn) (.slice Aa x.ats.length ca)).toArray 68) = W1 at *
      have hxlt := HXB.out.lt
      clear hcx
      have hml : (x.nums.length : Int) ≤ 20000 := by omega
      go_loopw [16] (fun jj wx => ∃ (j : Nat) (vd2 : Value), j ≤ x.nums.length ∧ jj = .int .i64 j ∧ AsS w3 wx PB vc vd2 { p with data := p.data ++ x.nums.take j } ∧ Box wx XB (itC 3 x.at_ x (.string (txt x.use)) x.useAt (.slice An x.nums.length cn) (.slice Aa x.ats.length ca)) ∧ vd2.ownBlock ≠ some XB ∧ badByte x.nums x.ats = badByte (x.nums.drop j) (x.ats.drop j)) (fun jj _ => x.nums.length - (intOf jj).toNat)
      case atStart => exact ⟨0, vd, Nat.zero_le _, rfl, by rw [List.take_zero, List.append_nil]; exact HAX.out, HXB.out, hdx, by rw [List.drop_zero, List.drop_zero]⟩
      case round =>
       obtain ⟨j, vd2, hj, rfl, ha3, hx3, hdx, hbb⟩ := hrel
       obtain ⟨D, hD⟩ : ∃ D, D = p.data ++ x.nums.take j := ⟨_, rfl⟩
       rw [← hD] at ha3
       have HDL3 := Lib.hid (show D.length = p.data.length + j by rw [hD, List.length_append, List.length_take]; omega)
       have hD20 : D.length ≤ 20000 := by have := HDL3.out; omega
       have HDE := Lib.hid hD
       have HA3 := Lib.hid ha3
       have HX3 := Lib.hid hx3
       have HBB := Lib.hid hbb
       have hxlt := hx3.lt
       have hdat : wr.ownsRow (PB + 1) 5 1 vd2 D.length (D.map (Value.int .u8)) := ha3.data
       have h3X := ha3.kept.size
       clear ha3 hx3 hbb hD
       by_cases hjm : j < x.nums.length
       ·have hal := HAL.out
        obtain ⟨gn, cn', he, hgn0, hgn⟩ := own_form HON.out (by omega)
        obtain ⟨ga, ca', he2, hga0, hga⟩ := own_form HOA.out (by omega)
        injection he with he1 _ he5
        injection he2 with he3 _ he6
        subst he1 he3 he5 he6
        obtain ⟨m, hm⟩ : ∃ m, x.nums[j]? = some m := ⟨_, List.getElem?_eq_getElem hjm⟩
        obtain ⟨b, hb⟩ : ∃ b, bs[j]? = some b := ⟨_, List.getElem?_eq_getElem (by have := HATS.out; rw [this] at hal; simp [atsI] at hal; omega)⟩
        have hab : x.ats[j]? = some (b : Int) := by rw [HATS.out]; unfold atsI; rw [List.getElem?_map, hb]; rfl
        have dn : wr.cell? ⟨gn, j, none⟩ = some (.int .i64 m) := by
         have := (Row.of_own HON.out).cells ⟨gn, 0, none⟩ rfl j (.int .i64 m) (by unfold intL; rw [List.getElem?_map, hm]; rfl)
         rw [add_spot, Nat.zero_add] at this
         exact HA3.out.kept.cell hgn this
        have da : wr.cell? ⟨ga, j, none⟩ = some (.int .i64 (b : Int)) := by
         have := (Row.of_own HOA.out).cells ⟨ga, 0, none⟩ rfl j (.int .i64 (b : Int)) (by unfold intL; rw [List.getElem?_map, hab]; rfl)
         rw [add_spot, Nat.zero_add] at this
         exact HA3.out.kept.cell hga this
        have cx10 : wr.cell? ⟨XB, 10, none⟩ = some (.slice (some ⟨gn, 0, none⟩) x.nums.length cn) := HX3.out.cell (k := 10) rfl
        have cx11 : wr.cell? ⟨XB, 11, none⟩ = some (.slice (some ⟨ga, 0, none⟩) x.ats.length ca) := HX3.out.cell (k := 11) rfl
        have HSTP := Lib.hid (badByte_at hm hab)
        have hgalt : ga < wr.heap.size := by omega
        have hpb3 := HA3.out.hPB
        have g0 : (0 : Int) ≤ j := by omega
        have g1 : (j : Int) < x.nums.length := by omega
        have g2 : (j : Int) < x.ats.length := by omega
        have HTK := Lib.hid (show { p with data := D ++ [m] } = ({ p with data := p.data ++ x.nums.take (j + 1) } : Prog) by rw [HDE.out, List.take_add_one, hm]; simp)
        clear hm hb hab hal
        try clear he
        try clear he2
        by_cases hm0 : m < 0
        ·have HB := Lib.hid (show Z = .bad b 8 by
          rw [HB.out, HBD.out, HBB.out, HSTP.out, if_pos (.inl hm0)]; show endZ (.bad ((b : Int).toNat) 8) = _; rw [Int.toNat_natCast]; rfl)
         have HRX : Hid (Box wr w.heap.size [.slice none 0 0, .int .i64 0, .slice none 0 0]) := R4.out.below HA3.out.kept (by omega)
         have HBX := Lib.hid (B5.out.trans (HA3.out.kept.mono (by omega)))
         have h3X := HA3.out.kept.size
         have hBX : w.heap.size ≤ wr.heap.size := by omega
         go_wp2_with fail
         refine wp_region_lin [(0, true), (1, true), (2, true), (3, true), (4, true), (5, true), (6, false), (7, true), (8, true)] (by kernel_rfl) (by kernel_rfl) rfl (by kernel_rfl) (fun y => y.cell? ⟨XB, 11, none⟩ = some (.slice (some ⟨ga, 0, none⟩) x.ats.length ca) ∧ y.cell? ⟨ga, j, none⟩ = some (.int .i64 (b : Int))) ?_
         simp only [List.map_cons, List.map_nil, List.getElem?_toArray, List.getElem?_cons_succ, List.getElem?_cons_zero]
         iterate 6 (refine lin_take (v := ?_) (by exact ⟨cx11, da⟩) (by rfl) ?_ ?_; rotate_left; (intro y hy; obtain ⟨s1, s2⟩ := hy; go_simp; try (with_reducible rfl)); (try simp only [Act.put, List.setIfInBounds_toArray, List.set_cons_zero, List.set_cons_succ]))
         refine lin_put_box (by exact ⟨cx11, da⟩) (by rfl) 26 (.tmp 2) (.tmp 142) rfl w.heap.size 0 [.slice none 0 0, .int .i64 0, .slice none 0 0] rfl rfl [.slice none 0 0, .int .i64 0, .slice none 0 0] (by exact HRX.out) (Nat.le_refl _) 3 (by kernel_rfl) rfl zp_one (fun y hy hg => ⟨grown_keeps hg hxlt (by omega) (by exact cx11), grown_keeps hg hgalt (by omega) (by exact da)⟩) ?_
         intro yz hbz hgz
         rw [splice_whole _ _ rfl] at hbz
         have fZ1 := grown_keeps hgz hxlt (by omega) (by exact cx11)
         have fZ2 := grown_keeps hgz hgalt (by omega) (by exact da)
         (try simp only [Act.put, List.setIfInBounds_toArray, List.set_cons_zero, List.set_cons_succ])
         iterate 2 (refine lin_take (v := ?_) ⟨fZ1, fZ2⟩ (by rfl) ?_ ?_; rotate_left; (intro y hy; obtain ⟨s1, s2⟩ := hy; go_simp; try (with_reducible rfl)); (try simp only [Act.put, List.setIfInBounds_toArray, List.set_cons_zero, List.set_cons_succ]))
         refine lin_done ?_
         have r0 := hbz.cell (k := 0) rfl
         have r1 := hbz.cell (k := 1) rfl
         have r2 := hbz.cell (k := 2) rfl
         have HBZ := Lib.hid (Below.grown (Below.drew HBX.out) hgz (by first | exact hBX | omega) (fun i hi => by injection hi with hi; omega))
         clear hgz fZ1 fZ2 hbz
         go_wp2_with fail
         refine bodyPost_ret (v := .tuple #[.agg #[.slice none 0 0, .int .i64 0, .slice none 0 0], .int .i64 (b : Int), .int .i64 8]) (by simp [results, Tryd.results7, go_sem, r0, r1, r2]) rfl ⟨ReadOut.bad HB.out rfl, HBZ.out⟩
        by_cases hm1 : 255 < m
        ·have HB := Lib.hid (show Z = .bad b 8 by
          rw [HB.out, HBD.out, HBB.out, HSTP.out, if_pos (.inr hm1)]; show endZ (.bad ((b : Int).toNat) 8) = _; rw [Int.toNat_natCast]; rfl)
         have HRX : Hid (Box wr w.heap.size [.slice none 0 0, .int .i64 0, .slice none 0 0]) := R4.out.below HA3.out.kept (by omega)
         have HBX := Lib.hid (B5.out.trans (HA3.out.kept.mono (by omega)))
         have h3X := HA3.out.kept.size
         have hBX : w.heap.size ≤ wr.heap.size := by omega
         go_wp2_with fail
         refine wp_region_lin [(0, true), (1, true), (2, true), (3, true), (4, true), (5, true), (6, false), (7, true), (8, true)] (by kernel_rfl) (by kernel_rfl) rfl (by kernel_rfl) (fun y => y.cell? ⟨XB, 11, none⟩ = some (.slice (some ⟨ga, 0, none⟩) x.ats.length ca) ∧ y.cell? ⟨ga, j, none⟩ = some (.int .i64 (b : Int))) ?_
         simp only [List.map_cons, List.map_nil, List.getElem?_toArray, List.getElem?_cons_succ, List.getElem?_cons_zero]
         iterate 6 (refine lin_take (v := ?_) (by exact ⟨cx11, da⟩) (by rfl) ?_ ?_; rotate_left; (intro y hy; obtain ⟨s1, s2⟩ := hy; go_simp; try (with_reducible rfl)); (try simp only [Act.put, List.setIfInBounds_toArray, List.set_cons_zero, List.set_cons_succ]))
         refine lin_put_box (by exact ⟨cx11, da⟩) (by rfl) 26 (.tmp 2) (.tmp 142) rfl w.heap.size 0 [.slice none 0 0, .int .i64 0, .slice none 0 0] rfl rfl [.slice none 0 0, .int .i64 0, .slice none 0 0] (by exact HRX.out) (Nat.le_refl _) 3 (by kernel_rfl) rfl zp_one (fun y hy hg => ⟨grown_keeps hg hxlt (by omega) (by exact cx11), grown_keeps hg hgalt (by omega) (by exact da)⟩) ?_
         intro yz hbz hgz
         rw [splice_whole _ _ rfl] at hbz
         have fZ1 := grown_keeps hgz hxlt (by omega) (by exact cx11)
         have fZ2 := grown_keeps hgz hgalt (by omega) (by exact da)
         (try simp only [Act.put, List.setIfInBounds_toArray, List.set_cons_zero, List.set_cons_succ])
         iterate 2 (refine lin_take (v := ?_) ⟨fZ1, fZ2⟩ (by rfl) ?_ ?_; rotate_left; (intro y hy; obtain ⟨s1, s2⟩ := hy; go_simp; try (with_reducible rfl)); (try simp only [Act.put, List.setIfInBounds_toArray, List.set_cons_zero, List.set_cons_succ]))
         refine lin_done ?_
         have r0 := hbz.cell (k := 0) rfl
         have r1 := hbz.cell (k := 1) rfl
         have r2 := hbz.cell (k := 2) rfl
         have HBZ := Lib.hid (Below.grown (Below.drew HBX.out) hgz (by first | exact hBX | omega) (fun i hi => by injection hi with hi; omega))
         clear hgz fZ1 fZ2 hbz
         go_wp2_with fail
         refine bodyPost_ret (v := .tuple #[.agg #[.slice none 0 0, .int .i64 0, .slice none 0 0], .int .i64 (b : Int), .int .i64 8]) (by simp [results, Tryd.results7, go_sem, r0, r1, r2]) rfl ⟨ReadOut.bad HB.out rfl, HBZ.out⟩
        have hm0 : 0 ≤ m := by omega
        have hm1 : m ≤ 255 := by omega
        have HNX := Lib.hid (HBB.out.trans (HSTP.out.trans (if_neg (fun h => by omega))))
        go_wp2_with fail
        have hS0 : (wr.drew).cell? ⟨XB, 10, none⟩ = some (.slice (some ⟨gn, 0, none⟩) x.nums.length cn) ∧ (wr.drew).cell? ⟨gn, j, none⟩ = some (.int .i64 m) := ⟨cx10, dn⟩
        refine wp_region_tree (fun a x => _) (LinT.of [(0, true), (2, true), (3, true), (4, true), (5, true), (6, true), (7, true)] (.two 1 8 (LinT.of [(8, false), (9, false), (10, true), (11, false)] .nil) (LinT.of [(1, false), (9, false), (10, true), (11, false)] .nil))) (by kernel_rfl) (by kernel_rfl) rfl (by kernel_rfl) (fun y => y.cell? ⟨XB, 10, none⟩ = some (.slice (some ⟨gn, 0, none⟩) x.nums.length cn) ∧ y.cell? ⟨gn, j, none⟩ = some (.int .i64 m)) (fun _ _ h => h) ?_
        simp only [LinT.of, LinT.look, List.getElem?_toArray, List.getElem?_cons_succ, List.getElem?_cons_zero]
        iterate 7 (refine tree_take (v := ?_) hS0 (by rfl) ?_ ?_; rotate_left; (intro y hy; obtain ⟨s1, s2⟩ := hy; go_simp; try (with_reducible rfl)); (try simp only [Act.put, List.setIfInBounds_toArray, List.set_cons_zero, List.set_cons_succ]))
        have hw : IntKind.u8.wrap m = m := IntWalk.u8_in _ ⟨hm0, hm1⟩
        try rw [hw]
        clear hw
        have c1 : wr.drew.cell? ⟨PB, 2, none⟩ = some vd2 := HA3.out.box.cell (k := 2) rfl
        have c1x : wr.cell? ⟨PB, 2, none⟩ = some vd2 := c1
        have hplt : PB < wr.drew.heap.size := HA3.out.box.lt
        have hplt2 : PB < wr.heap.size := HA3.out.box.lt
        have HEND : Hid (∀ (o : Obj) (y3 : World) (v3 : Value), (wr.drew.alloc o).grownBy y3 vd2.ownBlock → y3.ownsRow (PB + 1) 5 1 v3 (D.length + 1) (D.map (Value.int .u8) ++ [.int .u8 m]) → (∀ g, v3.ownBlock = some g → vd2.ownBlock = some g ∨ (wr.drew.alloc o).heap.size ≤ g) →
          (AsS w3 (y3.setCell ⟨PB, 2, none⟩ v3) PB vc v3 { p with data := D ++ [m] } ∧ Box (y3.setCell ⟨PB, 2, none⟩ v3) XB (itC 3 x.at_ x (.string (txt x.use)) x.useAt (.slice (some ⟨gn, 0, none⟩) x.nums.length cn) (.slice (some ⟨ga, 0, none⟩) x.ats.length ca)) ∧ v3.ownBlock ≠ some XB) ∧
          (y3.cell? ⟨XB, 10, none⟩ = some (.slice (some ⟨gn, 0, none⟩) x.nums.length cn) ∧ y3.cell? ⟨gn, j, none⟩ = some (.int .i64 m)) ∧ y3.cell? ⟨PB, 2, none⟩ = some vd2 ∧ y3.frozen? ⟨PB, 2, none⟩ = false ∧ PB < y3.heap.size ∧
          ((y3.setCell ⟨PB, 2, none⟩ v3).cell? ⟨XB, 10, none⟩ = some (.slice (some ⟨gn, 0, none⟩) x.nums.length cn) ∧ (y3.setCell ⟨PB, 2, none⟩ v3).cell? ⟨gn, j, none⟩ = some (.int .i64 m)) ∧ ∃ A3 k3, v3 = .slice A3 (D.length + 1) k3) := by
         intro o y3 v3 hg ho hn
         obtain ⟨q1, q2⟩ := AsS.byted (h := HA3.out.drew) m ho hg
         obtain ⟨A3, k3, h3⟩ := (Row.of_own ho).form
         have hobd : ∀ g, vd2.ownBlock = some g → PB + 1 ≤ g := fun g hg => (hdat.lt g hg).1
         have bX : Box y3 XB _ := (HX3.out.drew.alloc o).grown hg (fun e => hdx e.symm)
         have hne1 : some gn ≠ vd2.ownBlock := fun e => by have := hobd gn e.symm; omega
         have nC : y3.cell? ⟨gn, j, none⟩ = some (.int .i64 m) := by
          rw [World.cell?_of_block (a := ⟨gn, j, none⟩) (w := wr.drew.alloc o) (hg.block gn (by simp; omega) hne1), World.cell?_alloc_lt _ _ _ (by simp; omega)]; exact dn
         have xC : y3.cell? ⟨XB, 10, none⟩ = some (.slice (some ⟨gn, 0, none⟩) x.nums.length cn) := bX.cell (k := 10) rfl
         have hpxx : PB ≠ XB := by omega
         refine ⟨⟨q1, bX.setCell_other (by omega) 2 v3, fun e => ?_⟩, ⟨xC, nC⟩, q2.cell (k := 2) rfl, q2.frozen 2, q2.lt, ⟨(bX.setCell_other (b' := PB) (by omega) 2 v3).cell (k := 10) rfl, ?_⟩, A3, k3, h3⟩
         ·rcases hn XB e with h | h
          ·exact hdx h
          ·simp at h; omega
         ·rw [World.cell?_setCell_other _ _ _ _ (fun e => by have := congrArg Addr.block e; simp at this; omega)]; exact nC
        refine tree_two hS0 (by rfl) (by rfl) (fun K hK => ?_) (fun K hK => ?_)
        ·go_simp
         refine hK.out _ _ hS0 (fun _ => ?_)
         clear hK K
         (try simp only [Act.put, List.setIfInBounds_toArray, List.set_cons_zero, List.set_cons_succ])
         refine tree_call hS0 (by rfl) (fun K hK => ?_)
         go_simp
         have hSa : ((wr.drew).alloc (.cells #[.int .u8 m] 5)).cell? ⟨XB, 10, none⟩ = some (.slice (some ⟨gn, 0, none⟩) x.nums.length cn) ∧ ((wr.drew).alloc (.cells #[.int .u8 m] 5)).cell? ⟨gn, j, none⟩ = some (.int .i64 m) :=
          ⟨(World.cell?_alloc_lt _ _ _ hxlt).trans cx10, (World.cell?_alloc_lt _ _ _ (by show gn < wr.heap.size; omega)).trans dn⟩
         refine hK.out _ _ hSa (fun _ => ?_)
         clear hK K
         (try simp only [Act.put, List.setIfInBounds_toArray, List.set_cons_zero, List.set_cons_succ])
         refine tree_call hSa (by rfl) (fun K hK => ?_)
         refine wp_append_new _ (.tmp 149) (.tmp 156) 24 rfl (PB + 1) 5 i0 _ 1 1 Tryd.underlying24 HI.out HZ0.out HZ1.out HZ2.out rfl (by omega) _ D.length (D.map (Value.int .u8)) rfl (hdat.alloc _) _ (.slice (some ⟨wr.heap.size, 0, none⟩) 1 1) 1 [.int .u8 m] rfl (row_list wr.drew [.int .u8 m] _) (by simp [Value.oneCell']) (by unfold maxLen; omega) (by omega) (by simp; omega) ?_
         intro v3 y3 hO3 hg3 hn3
         obtain ⟨HPA, hS3, q3, q4, hy3, hS4, A3, k3, rfl⟩ := HEND.out _ _ _ hg3 hO3 hn3
         have HPA := Lib.hid HPA
         clear hO3 hg3 hn3
         refine hK.out _ _ hS3 (fun _ => ?_)
         clear hK K
         (try simp only [Act.put, List.setIfInBounds_toArray, List.set_cons_zero, List.set_cons_succ])
         iterate 1 (refine tree_take (v := ?_) hS3 (by rfl) ?_ ?_; rotate_left; (intro y hy; obtain ⟨s1, s2⟩ := hy; go_simp; try (with_reducible rfl)); (try simp only [Act.put, List.setIfInBounds_toArray, List.set_cons_zero, List.set_cons_succ]))
         refine tree_call hS3 (by rfl) (fun K hK => ?_)
         go_simp
         refine hK.out _ _ hS4 (fun _ => ?_)
         clear hK K
         refine tree_done ?_
         (try simp only [Act.put, List.setIfInBounds_toArray, List.set_cons_zero, List.set_cons_succ])
         clear hS3 hS4 q3 q4 HEND
         go_wp2_with fail
         go_roundw
         case rel => exact ⟨j + 1, .slice A3 (D.length + 1) k3, by omega, by go_num, by rw [← HTK.out]; exact HPA.out.1, HPA.out.2.1, HPA.out.2.2, HNX.out⟩
         case measure => simp only [intOf]; omega
        ·go_simp
         have hSa : ((wr.drew).alloc (.cells #[.int .u8 m] 5)).cell? ⟨XB, 10, none⟩ = some (.slice (some ⟨gn, 0, none⟩) x.nums.length cn) ∧ ((wr.drew).alloc (.cells #[.int .u8 m] 5)).cell? ⟨gn, j, none⟩ = some (.int .i64 m) :=
          ⟨(World.cell?_alloc_lt _ _ _ hxlt).trans cx10, (World.cell?_alloc_lt _ _ _ (by show gn < wr.heap.size; omega)).trans dn⟩
         have c1a : (wr.drew.alloc (.cells #[.int .u8 m] 5)).cell? ⟨PB, 2, none⟩ = some vd2 := (World.cell?_alloc_lt _ _ _ hplt).trans c1
         have c1b : (wr.alloc (.cells #[.int .u8 m] 5)).cell? ⟨PB, 2, none⟩ = some vd2 := c1a
         refine hK.out _ _ hSa (fun _ => ?_)
         clear hK K
         (try simp only [Act.put, List.setIfInBounds_toArray, List.set_cons_zero, List.set_cons_succ])
         refine tree_call hSa (by rfl) (fun K hK => ?_)
         go_simp
         refine hK.out _ _ hSa (fun _ => ?_)
         clear hK K
         (try simp only [Act.put, List.setIfInBounds_toArray, List.set_cons_zero, List.set_cons_succ])
         refine tree_call hSa (by rfl) (fun K hK => ?_)
         refine wp_append_new _ (.tmp 149) (.tmp 156) 24 rfl (PB + 1) 5 i0 _ 1 1 Tryd.underlying24 HI.out HZ0.out HZ1.out HZ2.out rfl (by omega) _ D.length (D.map (Value.int .u8)) rfl (hdat.alloc _) _ (.slice (some ⟨wr.heap.size, 0, none⟩) 1 1) 1 [.int .u8 m] rfl (row_list wr.drew [.int .u8 m] _) (by simp [Value.oneCell']) (by unfold maxLen; omega) (by omega) (by simp; omega) ?_
         intro v3 y3 hO3 hg3 hn3
         obtain ⟨HPA, hS3, q3, q4, hy3, hS4, A3, k3, rfl⟩ := HEND.out _ _ _ hg3 hO3 hn3
         have HPA := Lib.hid HPA
         clear hO3 hg3 hn3
         refine hK.out _ _ hS3 (fun _ => ?_)
         clear hK K
         (try simp only [Act.put, List.setIfInBounds_toArray, List.set_cons_zero, List.set_cons_succ])
         iterate 1 (refine tree_take (v := ?_) hS3 (by rfl) ?_ ?_; rotate_left; (intro y hy; obtain ⟨s1, s2⟩ := hy; go_simp; try (with_reducible rfl)); (try simp only [Act.put, List.setIfInBounds_toArray, List.set_cons_zero, List.set_cons_succ]))
         refine tree_call hS3 (by rfl) (fun K hK => ?_)
         go_simp
         refine hK.out _ _ hS4 (fun _ => ?_)
         clear hK K
         refine tree_done ?_
         (try simp only [Act.put, List.setIfInBounds_toArray, List.set_cons_zero, List.set_cons_succ])
         clear hS3 hS4 q3 q4 HEND
         go_wp2_with fail
         go_roundw
         case rel => exact ⟨j + 1, .slice A3 (D.length + 1) k3, by omega, by go_num, by rw [← HTK.out]; exact HPA.out.1, HPA.out.2.1, HPA.out.2.2, HNX.out⟩
         case measure => simp only [intOf]; omega
       ·have hje : j = x.nums.length := by omega
        have HNO := Lib.hid (show badByte x.nums x.ats = none by rw [HBB.out, List.drop_eq_nil_of_le (by omega)]; rfl)
        have HLZ := Lib.hid (show layP Q.1 [] Q.1 ⟨[], 0, []⟩ = layP Q.1 (Q.1.take (k + 1)) (Q.1.drop (k + 1)) { p with data := D } by rw [HBD.out, HNO.out, HDE.out, hje, List.take_length])
        have HDL4 : Hid (D.length = p.data.length + x.nums.length) := by rw [← hje]; exact HDL3.out
        have cx10 : wr.cell? ⟨XB, 10, none⟩ = some (.slice An x.nums.length cn) := HX3.out.cell (k := 10) rfl
        have g1 : ¬ (j : Int) < x.nums.length := by omega
        clear HBB HNO hje
        go_wp2_with fail
        go_roundw
        case rel => exact ⟨k + 1, { p with data := D }, vc, vd2, by omega, rfl, by go_num, HA3.out, HLZ.out, by have := HCL.out; show p.code.length ≤ _; omega, by have h1 := HDL.out; have h2 := HDX.out; have h3 := HDL4.out; rw [hdl0] at h2; show D.length + _ ≤ _; omega⟩
        case measure => simp only [intOf]; omega
    ·obtain rfl : k = N := by omega
     have hz2 : Z = checkZ p := by rw [HB.out, HLAY.out, HEND.out p]; rfl
     have HZ2 := Lib.hid hz2
     have hNs : p.code.length ≤ 4294967296 := by have := HCL.out; have := HTL.out; have := HLL.out; have := HNB.out; omega
     obtain ⟨Ac, cc, rfl⟩ := (Row.of_own HA.out.code).form
     obtain ⟨Ad, cd, rfl⟩ := (Row.of_own HA.out.data).form
     have hcd := (Row.of_own HA.out.data).cap
     have b0 := HA.out.box.cell (k := 0) rfl
     have b1 := HA.out.box.cell (k := 1) rfl
     have b2 := HA.out.box.cell (k := 2) rfl
     clear hz2 hlt
     go_wp2_with fail
     refine (refTargets_any Ac cc p.size (.slice Ad p.data.length cd) p.code wr (Row.of_own HA.out.code) hNs).mono ?_
     rintro e w5 ⟨rfl, hb5⟩
     have HA5 := Lib.hid (HA.out.below hb5)
     clear hb5 b0 b1 b2
     have b0 := HA5.out.box.cell (k := 0) rfl
     have b1 := HA5.out.box.cell (k := 1) rfl
     have b2 := HA5.out.box.cell (k := 2) rfl
     have R5 : Hid (Box w5 w.heap.size [.slice none 0 0, .int .i64 0, .slice none 0 0]) := R4.out.below HA5.out.kept (by omega)
     have B9 := Lib.hid (B5.out.trans (HA5.out.kept.mono (by omega)))
     have r0 := R5.out.cell (k := 0) rfl
     have r1 := R5.out.cell (k := 1) rfl
     have r2 := R5.out.cell (k := 2) rfl
     have g0 := R5.out.frozen 0
     have g1 := R5.out.frozen 1
     have g2 := R5.out.frozen 2
     cases ht : targetsOk p.code.length 0 p.code
     ·have HBB : Hid (Z = .bad 0 4) := by show _ = _; rw [HZ2.out]; unfold checkZ; rw [if_pos ht]
      have e4 : errT false = 4 := rfl
      rw [e4]
      clear ht
      go_wp2_with fail
      refine bodyPost_ret (v := .tuple #[.agg #[.slice none 0 0, .int .i64 0, .slice none 0 0], .int .i64 0, .int .i64 4]) (by simp [results, Tryd.results7, go_sem, r0, r1, r2]) rfl ⟨ReadOut.bad HBB.out rfl, ((B9.out.setCell (p := ⟨w.heap.size, 0, none⟩) (Nat.le_refl _) _).setCell (p := ⟨w.heap.size, 1, none⟩) (Nat.le_refl _) _).setCell (p := ⟨w.heap.size, 2, none⟩) (Nat.le_refl _) _⟩
     ·have e4 : errT true = 0 := rfl
      rw [e4]
      have HTT := Lib.hid ht
      clear ht r0 r1 r2 g0 g1 g2
      go_wp2_with fail
      refine (refRight_any Ac cc p.size Ad p.data.length cd p.code w5 (Row.of_own HA5.out.code) (by omega) (by omega)).mono ?_
      rintro e w6 ⟨rfl, hb6⟩
      have HA6 := Lib.hid (HA5.out.below hb6)
      clear hb6 b0 b1 b2
      have b0 := HA6.out.box.cell (k := 0) rfl
      have b1 := HA6.out.box.cell (k := 1) rfl
      have b2 := HA6.out.box.cell (k := 2) rfl
      have R6 : Hid (Box w6 w.heap.size [.slice none 0 0, .int .i64 0, .slice none 0 0]) := R4.out.below HA6.out.kept (by omega)
      have BA := Lib.hid (B5.out.trans (HA6.out.kept.mono (by omega)))
      have r0 := R6.out.cell (k := 0) rfl
      have r1 := R6.out.cell (k := 1) rfl
      have r2 := R6.out.cell (k := 2) rfl
      have g0 := R6.out.frozen 0
      have g1 := R6.out.frozen 1
      have g2 := R6.out.frozen 2
      cases hri : rightZ p.code p.size p.data.length
      ·have HBB : Hid (Z = .bad 0 1) := by show _ = _; rw [HZ2.out]; unfold checkZ; rw [if_neg (by rw [HTT.out]; decide), if_neg (by rw [hri]; decide)]
       clear hri
       go_wp2_with fail
       refine bodyPost_ret (v := .tuple #[.agg #[.slice none 0 0, .int .i64 0, .slice none 0 0], .int .i64 0, .int .i64 1]) (by simp [results, Tryd.results7, go_sem, r0, r1, r2]) rfl ⟨ReadOut.bad HBB.out rfl, ((BA.out.setCell (p := ⟨w.heap.size, 0, none⟩) (Nat.le_refl _) _).setCell (p := ⟨w.heap.size, 1, none⟩) (Nat.le_refl _) _).setCell (p := ⟨w.heap.size, 2, none⟩) (Nat.le_refl _) _⟩
      ·have HBB : Hid (Z = .ok p) := by show _ = _; rw [HZ2.out]; unfold checkZ; rw [if_neg (by rw [HTT.out]; decide), if_pos hri]
       clear hri
       have hPB1 := HA6.out.hPB
       have hne1 : (Value.slice Ac p.code.length cc).ownBlock ≠ some w.heap.size := fun h => by have := (HA6.out.code.lt _ h).1; omega
       have hne2 : (Value.slice Ad p.data.length cd).ownBlock ≠ some w.heap.size := fun h => by have := (HA6.out.data.lt _ h).1; omega
       go_wp2_with fail
       refine bodyPost_ret (v := .tuple #[.agg #[.slice Ac p.code.length cc, .int .i64 p.size, .slice Ad p.data.length cd], .int .i64 (-1), .int .i64 0]) (by simp [results, Tryd.results7, go_sem, r0, r1, r2]) rfl ⟨ReadOut.ok HBB.out rfl ?_ ?_, ((BA.out.setCell (p := ⟨w.heap.size, 0, none⟩) (Nat.le_refl _) _).setCell (p := ⟨w.heap.size, 1, none⟩) (Nat.le_refl _) _).setCell (p := ⟨w.heap.size, 2, none⟩) (Nat.le_refl _) _⟩
       ·exact own_base (ownsRow_setCell_other (ownsRow_setCell_other (ownsRow_setCell_other HA6.out.code hne1 _) hne1 _) hne1 _) (by omega)
       ·exact own_base (ownsRow_setCell_other (ownsRow_setCell_other (ownsRow_setCell_other HA6.out.data hne2 _) hne2 _) hne2 _) (by omega)
end Go.Proofs.YtcaibahniheohaaDoor.Words

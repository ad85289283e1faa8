/- Several texts in one: ShowData, ShowLeaf, ShowParts, ShowAs. -/
import Derived.Test.YtcaibahniheohaaDoorBG27
import Derived.Test.YtcaibahniheohaaDoorBG02
import Derived.Test.YtcaibahniheohaaDoorBG07
import Derived.Test.YtcaibahniheohaaDoorBG05
import Derived.Test.YtcaibahniheohaaDoorBG00
import Derived.Lib.AppendStr
import Derived.Test.YtcaibahniheohaaDoorBSShelf
import Derived.Test.YtcaibahniheohaaDoorBSAsmNamesLaw

/- A writer in its block: its names and its text; what a call that writes leaves. -/
namespace Go.Proofs.YtcaibahniheohaaDoor.Words
set_option maxRecDepth 100000
open Go.RowKit Go.Shelf Go.Lib
set_option linter.unusedVariables false
set_option linter.unusedSimpArgs false
theorem strCells_txt (l : List UInt8) : strCells (txt l) = l.map (fun c => Value.int .u8 c.toNat) := by
  unfold strCells; rw [txt_data]
def byteL (xs : List UInt8) : List Value := xs.map (fun c => Value.int .u8 c.toNat)
theorem byteL_append (a b : List UInt8) : byteL (a ++ b) = byteL a ++ byteL b := by simp [byteL]
def Wr (w : World) (b : Nat) (vn vt : Value) (xs : List UInt8) : Prop :=
  Box w b [vn, vt] ∧ (∃ g o c, vn = .slice (some ⟨g, o, none⟩) 41 c ∧ g < b) ∧ Row w b 1 vn 41 namesL ∧ w.ownsRow (b + 1) 5 1 vt xs.length (byteL xs)
structure WrT (b : Nat) (w w' : World) : Prop where
  bel : Below b w w'
  mid : ∀ k, k < w.heap.size → k ≠ b → (∀ cs f, w.heap[k]? ≠ some (.cells cs 5 f)) → w'.heap[k]? = w.heap[k]?
section
variable {w w' w'' : World} {b : Nat} {vn vt : Value} {xs : List UInt8}
theorem WrT.size (h : WrT b w w') : w.heap.size ≤ w'.heap.size := h.bel.size
theorem WrT.trans (h : WrT b w w') (g : WrT b w' w'') : WrT b w w'' := by
  refine ⟨h.bel.trans g.bel, fun k hk hs ht => ?_⟩
  have e := h.mid k hk hs ht
  refine (g.mid k (Nat.lt_of_lt_of_le hk h.size) hs (fun cs f => ?_)).trans e
  rw [e]; exact ht cs f
theorem WrT.of_below (h : Below w.heap.size w w') (hb : b ≤ w.heap.size) : WrT b w w' := ⟨h.mono hb, fun k hk _ _ => h.block k hk⟩
theorem WrT.go (h : WrT b w w') (hb : b ≤ w.heap.size) (g : Below w'.heap.size w' w'') : WrT b w w'' := h.trans (WrT.of_below g (Nat.le_trans hb h.size))
theorem WrT.own {base s n : Nat} {e : TypeId} {v : Value} {l : List Value} (h : WrT b w w') (ho : w.ownsRow base e s v n l) (hb : b < base) (he : e ≠ 5) : w'.ownsRow base e s v n l := by
  obtain ⟨h0, h1⟩ := ho
  refine ⟨h0, ?_⟩
  rcases h1 with h1 | ⟨g, cap, cur, e0, h1, h2, h3⟩
  · exact .inl h1
  · refine .inr ⟨g, cap, cur, e0, h1, ?_, h3⟩
    refine (h.mid g (Array.getElem?_eq_some_iff.1 h2).1 (by omega) (fun cs f hh => ?_)).trans h2
    rw [h2] at hh
    simp only [Option.some.injEq, Obj.cells.injEq] at hh
    exact he hh.2.1
theorem WrT.cell {g o : Nat} {e : TypeId} {cs : Array Value} {f : Nat × Nat} {v : Value} (h : WrT b w w') (hg : w.heap[g]? = some (.cells cs e f)) (hb : g ≠ b) (he : e ≠ 5) (hv : w.cell? ⟨g, o, none⟩ = some v) : w'.cell? ⟨g, o, none⟩ = some v := by
  have := h.mid g (Array.getElem?_eq_some_iff.1 hg).1 hb (fun c2 f2 hh => by
    rw [hg] at hh
    simp only [Option.some.injEq, Obj.cells.injEq] at hh
    exact he hh.2.1)
  exact (World.cell?_of_block (w := w) (a := ⟨g, o, none⟩) this).trans hv
theorem Wr.lt (h : Wr w b vn vt xs) : b < w.heap.size := h.1.lt
theorem Wr.go (h : Wr w b vn vt xs) (hb : Below w.heap.size w w') : Wr w' b vn vt xs := by
  have hl := h.lt
  obtain ⟨h1, h2, h3, h4⟩ := h
  exact ⟨h1.below hb hl, h2, h3.below (hb.mono (Nat.le_of_lt hl)), own_below h4 hb⟩
theorem Wr.own (h : Wr w b vn vt xs) : ∀ g, vt.ownBlock = some g → b + 1 ≤ g ∧ g < w.heap.size := fun g hg => h.2.2.2.lt g hg
theorem Wr.form (h : Wr w b vn vt xs) : ∃ A c, vt = .slice A xs.length c := (Row.of_own h.2.2.2).form
theorem Wr.bytes (h : Wr w b vn vt xs) : ∀ g, vt.ownBlock = some g → ∃ cs f, w.heap[g]? = some (.cells cs 5 f) := by
  intro g hg
  rcases h.2.2.2.2 with ⟨rfl, _⟩ | ⟨g1, c1, cur1, rfl, _, a1, _⟩
  · cases hg
  · simp only [Value.ownBlock, Option.some.injEq] at hg
    subst hg
    exact ⟨_, _, a1⟩
theorem Wr.app {v3 : Value} {t : List UInt8} (h : Wr w b vn vt xs) (hg : w.grownBy w' vt.ownBlock) (ho : w'.ownsRow (b + 1) 5 1 v3 (xs.length + t.length) (byteL xs ++ byteL t)) :
    Wr (w'.setCell ⟨b, 1, none⟩ v3) b vn v3 (xs ++ t) ∧ WrT b w (w'.setCell ⟨b, 1, none⟩ v3) := by
  have hl := h.lt
  have hob := h.own
  have hby := h.bytes
  obtain ⟨h1, h2, h3, h4⟩ := h
  have hK : KeepS (fun k => k = b ∨ vt.ownBlock = some k) w (w'.setCell ⟨b, 1, none⟩ v3) := (KeepS.of_grown hg (fun k hk => .inr hk)).setCell (.inl rfl) 1 v3
  have hB : Below b w (w'.setCell ⟨b, 1, none⟩ v3) := hK.below (Nat.le_of_lt hl) (fun k hk => by
    rcases hk with e | e
    · omega
    · have := (hob k e).1; omega)
  refine ⟨⟨?_, h2, h3.below hB, ?_⟩, hB, fun k hk hs ht => hK.block k hk ?_⟩
  · exact (h1.grown hg (fun e => by have := (hob b e.symm).1; omega)).setCell 1 v3
  · rw [byteL_append, List.length_append]
    exact ownsRow_setCell_below ho (a := ⟨b, 1, none⟩) (Nat.lt_succ_self b) v3
  · rintro (e | e)
    · exact hs e
    · obtain ⟨cs, f, h⟩ := hby k e
      exact ht cs f h
end
/-! ### the tables that a writer reads -/
def shapesS : List (List UInt8) := [[], [32, 68, 44, 32, 65, 44, 32, 66], [32, 68, 44, 32, 65, 44, 32, 78], [32, 68, 44, 32, 78], [32, 68, 44, 32, 78, 40, 65, 41], [32, 66, 44, 32, 78, 40, 65, 41], [32, 65, 44, 32, 66, 44, 32, 78], [32, 78], []]
def ShapesS (w : World) : Prop := 3 < w.heap.size ∧ ∀ k t, shapesS[k]? = some t → w.cell? ⟨3, k, none⟩ = some (.string (txt t))
def TabsS (w : World) : Prop := Lib.TabIs Tryd.prog w "internal/strconv.uint64pow10" .u64 Lib.pow10Tab ∧ ShapesS w
theorem TabsS.below {w w' : World} (h : TabsS w) (hb : Below w.heap.size w w') : TabsS w' :=
  ⟨TabIs_below (g := 6) (by kernel_rfl) h.1 hb, ⟨Nat.lt_of_lt_of_le h.2.1 hb.size, fun k t ht => below_cell hb h.2.1 (h.2.2 k t ht)⟩⟩
def TabsSB (B : Nat) (w : World) : Prop := ∀ x, Below B w x → TabsS x
theorem TabsSB.now {B : Nat} {w : World} (h : TabsSB B w) : TabsS w := h w (Below.refl _ _)
theorem TabsSB.go {B : Nat} {w w' : World} (h : TabsSB B w) (hb : Below B w w') : TabsSB B w' := fun x hx => h x (hb.trans hx)
theorem TabsS.all {w : World} (h : TabsS w) : TabsSB w.heap.size w := fun x hx => h.below hx
/-! ### what a text is put together of -/
inductive Part where
  | s (t : List UInt8)
  | n (k : Int)
  | op (k : Int)
  | reg (k : Int)
  | ins (i : Ins)
def insV (i : Ins) : Value := .agg #[.int .i64 i.op, .int .i64 i.d, .int .i64 i.a, .int .i64 i.b, .int .i64 i.imm]
def Part.val : Part → Value
  | .s t => .iface 9 (.string (txt t))
  | .n k => .iface 3 (.int .i64 k)
  | .op k => .iface 122 (.int .i64 k)
  | .reg k => .iface 143 (.int .i64 k)
  | .ins i => .iface 38 (insV i)
def Part.text : Part → Option (List UInt8)
  | .s t => some t
  | .n k => some (decN k)
  | .op k => some (nameN k)
  | .reg k => if 0 ≤ k ∧ k ≤ 15 then some (regS k) else none
  | .ins i => if rightB i = true then some (showI i) else none
def Part.ok : Part → Prop
  | .s t => t.length ≤ 60
  | .n k => -9223372036854775808 ≤ k ∧ k ≤ 9223372036854775807 ∧ (decN k).length ≤ 60
  | .op k => 1 ≤ k ∧ k ≤ 41
  | .reg k => -9223372036854775808 ≤ k ∧ k ≤ 9223372036854775807
  | .ins i => i.Fits
def partsTxt : List Part → Option (List UInt8)
  | [] => some []
  | p :: ps => match p.text, partsTxt ps with
    | some a, some b => some (a ++ b)
    | _, _ => none
theorem partsTxt_cons {p : Part} {ps : List Part} {a b : List UInt8} (h1 : p.text = some a) (h2 : partsTxt ps = some b) : partsTxt (p :: ps) = some (a ++ b) := by unfold partsTxt; rw [h1, h2]
theorem partsTxt_append : ∀ {ps qs : List Part} {a b : List UInt8}, partsTxt ps = some a → partsTxt qs = some b → partsTxt (ps ++ qs) = some (a ++ b)
  | [], qs, a, b, h1, h2 => by
    unfold partsTxt at h1; injection h1 with h1; subst h1; exact h2
  | p :: ps, qs, a, b, h1, h2 => by
    unfold partsTxt at h1
    split at h1
    · rename_i x y hx hy
      injection h1 with h1; subst h1
      rw [List.cons_append, partsTxt_cons hx (partsTxt_append hy h2), List.append_assoc]
    · cases h1
theorem Part.text_len {p : Part} (h : p.ok) {t : List UInt8} (ht : p.text = some t) : t.length ≤ 60 := by
  cases p with
  | s u => injection ht with ht; subst ht; exact h
  | n k => injection ht with ht; subst ht; exact h.2.2
  | op k => injection ht with ht; subst ht; have := nameN_len h; omega
  | reg k =>
    change (if 0 ≤ k ∧ k ≤ 15 then some (regS k) else none) = some t at ht
    split at ht
    · rename_i hk; injection ht with ht; subst ht; have := regS_len hk; omega
    · cases ht
  | ins i =>
    change (if rightB i = true then some (showI i) else none) = some t at ht
    split at ht
    · rename_i hk; injection ht with ht; subst ht; have := showI_len hk; omega
    · cases ht
end Go.Proofs.YtcaibahniheohaaDoor.Words

/- What a writer writes of a string, of a number, and of an operation. -/
namespace Go.Proofs.YtcaibahniheohaaDoor.Words
set_option maxRecDepth 100000
open Go.RowKit Go.Shelf Go.Lib
set_option linter.unusedVariables false
set_option linter.unusedSimpArgs false
theorem as_ss (v : Value) : ∀ w, (Instr.typeAssert (.iface 9 v) 20 9 true).run Tryd.prog w = .ok (.tuple #[v, .bool true]) w := fun _ => by kernel_rfl
theorem as_ns (v : Value) : ∀ w, (Instr.typeAssert (.iface 3 v) 20 9 true).run Tryd.prog w = .ok (.tuple #[.string ⟨#[]⟩, .bool false]) w := fun _ => by kernel_rfl
theorem as_nn (v : Value) : ∀ w, (Instr.typeAssert (.iface 3 v) 20 3 true).run Tryd.prog w = .ok (.tuple #[v, .bool true]) w := fun _ => by kernel_rfl
theorem as_os (v : Value) : ∀ w, (Instr.typeAssert (.iface 122 v) 20 9 true).run Tryd.prog w = .ok (.tuple #[.string ⟨#[]⟩, .bool false]) w := fun _ => by kernel_rfl
theorem as_on (v : Value) : ∀ w, (Instr.typeAssert (.iface 122 v) 20 3 true).run Tryd.prog w = .ok (.tuple #[.int .i64 0, .bool false]) w := fun _ => by kernel_rfl
theorem as_oo (v : Value) : ∀ w, (Instr.typeAssert (.iface 122 v) 20 122 true).run Tryd.prog w = .ok (.tuple #[v, .bool true]) w := fun _ => by kernel_rfl
theorem info_byte9 : (Tryd.prog.info? 5).map (fun i => (i.zero, i.size, i.bytes)) = some (some (.int .u8 0), 1, 1) := by kernel_rfl
def WriteC (B : Nat) (x : Value) (o : Option (List UInt8)) : Prop :=
  ∀ (w : World) (b : Nat) (vn vt : Value) (xs : List UInt8), Wr w b vn vt xs → xs.length ≤ B → TabsSB b w →
    Calls Tryd.prog 48 #[.pointer (some ⟨b, 0, none⟩), x] w fun e w' => match o with
      | some t => e = .returned (.bool true) ∧ (∃ vt', Wr w' b vn vt' (xs ++ t)) ∧ WrT b w w'
      | none => e = .returned (.bool false) ∧ (∃ vt' xs', Wr w' b vn vt' xs') ∧ WrT b w w'
set_option maxHeartbeats 2000000 in
theorem write_str {B : Nat} (hB : B ≤ 1099511627776) (t : List UInt8) (ht : t.length ≤ 1000) : WriteC B (.iface 9 (.string (txt t))) (some t) := by
  intro w b vn vt xs h hl hP
  obtain ⟨i0, hi, hz1⟩ : ∃ i, Tryd.prog.info? 5 = some i ∧ (i.zero, i.size, i.bytes) = (some (.int .u8 0), 1, 1) := by
    have := info_byte9
    cases hh : Tryd.prog.info? 5 with
    | none => rw [hh] at this; cases this
    | some i => rw [hh] at this; exact ⟨i, rfl, by simpa using this⟩
  simp only [Prod.mk.injEq] at hz1
  obtain ⟨hz, hs1, hb1⟩ := hz1
  have HI := Lib.hid hi
  have HZ0 := Lib.hid hz
  have HZ1 := Lib.hid hs1
  have HZ2 := Lib.hid hb1
  have hob := h.2.2.2
  have HO := Lib.hid hob
  have hlt := h.lt
  have HL := Lib.hid hlt
  have c1 : w.cell? ⟨b, 1, none⟩ = some vt := h.1.cell (k := 1) rfl
  have f1 : w.frozen? ⟨b, 1, none⟩ = false := h.1.frozen 1
  have HW := Lib.hid h
  have hsz : (txt t).size = t.length := txt_len t
  have HSZ := Lib.hid hsz
  have HLN := Lib.hid (Nat.le_trans hl hB)
  have HTN := Lib.hid ht
  have a1 := as_ss (.string (txt t))
  clear hi hz hs1 hb1 hob hlt h hsz hl ht
  go_enter Tryd.func48, Tryd.ntmps48
  go_wp2_with (at_builtin; refine wpList_append_own_string _ rfl (.tmp 24) (.tmp 25) 24 9 rfl (b + 1) 5 i0 Tryd.underlying24 Tryd.underlying9 HI.out HZ0.out HZ1.out HZ2.out vt xs.length (byteL xs) rfl HO.out (txt t) rfl (by have := HSZ.out; have := HLN.out; have := HTN.out; unfold maxLen; omega) (by have := HSZ.out; have := HLN.out; have := HTN.out; omega) (by have := HL.out; omega) ?_; intro v3 w3 ho3 hg3 _; rw [HSZ.out, strCells_txt] at ho3; obtain ⟨A3, cc3, rfl⟩ := (Row.of_own ho3).form; have hbx := HW.out.1.grown hg3 (fun e => by have := (HW.out.own b e.symm).1; omega); have c3 : w3.frozen? ⟨b, 1, none⟩ = false := hbx.frozen 1; have c4 : w3.cell? ⟨b, 1, none⟩ = some vt := hbx.cell (k := 1) rfl; clear hbx; have HG3 := Lib.hid hg3; have HO3 := Lib.hid ho3; clear hg3 ho3)
  go_ret
  obtain ⟨q1, q2⟩ := HW.out.app HG3.out HO3.out
  exact ⟨rfl, ⟨_, q1⟩, q2⟩
theorem grow_below (w : World) (k : Nat) (os : Array Obj) : Below w.heap.size w (Go.Sort.grow (w.drewN k) os) :=
  ⟨rfl, rfl, rfl, by simp [Go.Sort.grow], fun j hj => by
    show (w.heap ++ os)[j]? = w.heap[j]?
    rw [Array.getElem?_append_left hj]⟩
theorem decDigits_digs (n : Nat) : Lib.decDigits n = digs 10 false n := by
  induction n using Nat.strongRecOn with
  | _ n ih =>
    by_cases h : n < 10
    · rw [Lib.decDigits, dif_pos h, digs_lo false h]; unfold hexB; rw [if_pos h]
    · rw [Lib.decDigits, dif_neg h, digs_hi (by omega) false (by omega), ih (n / 10) (by omega)]
      unfold hexB; rw [if_pos (by omega)]
theorem itoa_dec (n : Int) : Lib.itoa n = decN n := by
  unfold Lib.itoa decN
  rw [decDigits_digs, decDigits_digs]
  by_cases h : n < 0
  · rw [if_pos h, if_pos h]
  · rw [if_neg h, if_neg h, show n.natAbs = n.toNat by omega]
theorem itoa_any (n : Int) (w : World) (h : -9223372036854775808 ≤ n ∧ n ≤ 9223372036854775807) (hT : TabsS w) :
    Calls Tryd.prog 70 #[.int .i64 n] w fun e w' => e = .returned (.string (txt (decN n))) ∧ Below w.heap.size w w' := by
  refine (Tryd.strconv_Itoa n h.1 h.2 w hT.1).mono ?_
  rintro e w' ⟨rfl, k, os, rfl⟩
  rw [itoa_dec]
  exact ⟨rfl, grow_below w k os⟩
theorem WriteC.behind {B : Nat} {y : Value} {o : Option (List UInt8)} (h : WriteC B y o) {w w' : World} {b : Nat} {vn vt : Value} {xs : List UInt8} (hw : Wr w b vn vt xs) (hl : xs.length ≤ B) (hT : TabsSB b w) (hb : Below w.heap.size w w') :
    Calls Tryd.prog 48 #[.pointer (some ⟨b, 0, none⟩), y] w' fun e w'' => match o with
      | some t => e = .returned (.bool true) ∧ (∃ vt', Wr w'' b vn vt' (xs ++ t)) ∧ WrT b w w''
      | none => e = .returned (.bool false) ∧ (∃ vt' xs', Wr w'' b vn vt' xs') ∧ WrT b w w'' := by
  refine (h w' b vn vt xs (hw.go hb) hl (hT.go (hb.mono (Nat.le_of_lt hw.lt)))).mono ?_
  intro e w'' hh
  have hW : WrT b w w' := WrT.of_below hb (Nat.le_of_lt hw.lt)
  cases o with
  | some t => exact ⟨hh.1, hh.2.1, hW.trans hh.2.2⟩
  | none => exact ⟨hh.1, hh.2.1, hW.trans hh.2.2⟩
set_option maxHeartbeats 2000000 in
theorem write_int {B : Nat} (hB : B ≤ 1099511627776) (n : Int) (hn : -9223372036854775808 ≤ n ∧ n ≤ 9223372036854775807) (h60 : (decN n).length ≤ 1000) : WriteC B (.iface 3 (.int .i64 n)) (some (decN n)) := by
  intro w b vn vt xs h hl hP
  have cI := itoa_any n w hn hP.now
  have cS := Lib.hid (fun w' (hb : Below w.heap.size w w') => (write_str hB (decN n) h60).behind h hl hP hb)
  have a1 := as_ns (.int .i64 n)
  have a2 := as_nn (.int .i64 n)
  clear hn
  go_enter Tryd.func48, Tryd.ntmps48
  go_wp2_with (go_at_call 70; refine cI.mono ?_; rintro e w1 ⟨rfl, hb1⟩; have HB1 := Lib.hid hb1; clear hb1)
  refine (cS.out _ HB1.out).mono ?_
  rintro e w2 ⟨rfl, h2⟩
  go_wp2_with fail
  go_ret
  exact ⟨rfl, h2⟩
set_option maxHeartbeats 2000000 in
theorem write_op {B : Nat} (hB : B ≤ 1099511627776) (k : Int) (hk : 1 ≤ k ∧ k ≤ 41) : WriteC B (.iface 122 (.int .i64 k)) (some (nameN k)) := by
  intro w b vn vt xs h hl hP
  have hnl := nameN_len hk
  have cS := Lib.hid ((write_str hB (nameN k) (by omega)).behind h hl hP (Below.refl _ _))
  obtain ⟨j, hj⟩ : ∃ j : Nat, k - 1 = (j : Int) := ⟨(k - 1).toNat, by omega⟩
  have hj41 : j < 41 := by omega
  have hname : namesZ.getD j [] = nameN k := by unfold nameN; rw [hj]; rfl
  obtain ⟨g, o, c, rfl, hg⟩ := h.2.1
  have hnm := names_row (n := 41) h.2.2.1 hj41
  rw [hname] at hnm
  have c0 : w.cell? ⟨b, 0, none⟩ = some (.slice (some ⟨g, o, none⟩) 41 c) := h.1.cell (k := 0) rfl
  have hwj : IntKind.i64.wrap (j : Int) = j := by rw [IntKind.wrap_i64]; omega
  have j0 : (0 : Int) ≤ j := by omega
  have j1 : (j : Int) < 41 := by omega
  have a1 := as_os (.int .i64 k)
  have a2 := as_on (.int .i64 k)
  have a3 := as_oo (.int .i64 k)
  clear hj41 hname hk hg
  go_enter Tryd.func48, Tryd.ntmps48
  go_wp2_with fail
  refine cS.out.mono ?_
  rintro e w2 ⟨rfl, h2⟩
  go_wp2_with fail
  go_ret
  exact ⟨rfl, h2⟩
end Go.Proofs.YtcaibahniheohaaDoor.Words

/- What a writer writes of a thing that is put together of parts. -/
namespace Go.Proofs.YtcaibahniheohaaDoor.Words
set_option maxRecDepth 100000
open Go.RowKit Go.Shelf Go.Lib
set_option linter.unusedVariables false
set_option linter.unusedSimpArgs false
def partVals (ps : List Part) : List Value := ps.map Part.val
def PartsAt (w : World) (x : Value) (ps : List Part) : Prop :=
  Calls Tryd.prog 71 #[x] w fun e w' => ∃ v, e = .returned v ∧ w'.ownsRow w.heap.size 20 1 v ps.length (partVals ps) ∧ Below w.heap.size w w'
def PartsC (x : Value) (ps : List Part) : Prop := ∀ w : World, TabsS w → PartsAt w x ps
def WriteAt (w : World) (b : Nat) (vn vt : Value) (xs : List UInt8) (x : Value) (o : Option (List UInt8)) : Prop :=
  Calls Tryd.prog 48 #[.pointer (some ⟨b, 0, none⟩), x] w fun e w' => match o with
      | some t => e = .returned (.bool true) ∧ (∃ vt', Wr w' b vn vt' (xs ++ t)) ∧ WrT b w w'
      | none => e = .returned (.bool false) ∧ (∃ vt' xs', Wr w' b vn vt' xs') ∧ WrT b w w'
structure Deep (x : Value) : Prop where
  s : ∀ w, (Instr.typeAssert x 20 9 true).run Tryd.prog w = .ok (.tuple #[.string ⟨#[]⟩, .bool false]) w
  n : ∀ w, (Instr.typeAssert x 20 3 true).run Tryd.prog w = .ok (.tuple #[.int .i64 0, .bool false]) w
  o : ∀ w, (Instr.typeAssert x 20 122 true).run Tryd.prog w = .ok (.tuple #[.int .i64 0, .bool false]) w
theorem partsTxt_len : ∀ {ps : List Part} {t : List UInt8}, (∀ p ∈ ps, p.ok) → partsTxt ps = some t → t.length ≤ 60 * ps.length
  | [], t, _, h => by unfold partsTxt at h; injection h with h; subst h; simp
  | p :: ps, t, ho, h => by
    unfold partsTxt at h
    split at h
    · rename_i a b ha hb
      injection h with h; subst h
      have h1 := Part.text_len (ho p (by simp)) ha
      have h2 := partsTxt_len (fun q hq => ho q (by simp [hq])) hb
      simp only [List.length_append, List.length_cons]
      omega
    · cases h
theorem partsTxt_some {p : Part} {a : List UInt8} (h : p.text = some a) : partsTxt [p] = some a := by
  rw [partsTxt_cons h rfl, List.append_nil]
theorem partsTxt_none : ∀ {ps : List Part} {p : Part} (qs : List Part), p.text = none → partsTxt (ps ++ p :: qs) = none
  | [], p, qs, h => by
    show (match p.text, partsTxt qs with | some a, some b => some (a ++ b) | _, _ => none) = none
    rw [h]
  | q :: ps, p, qs, h => by
    show (match q.text, partsTxt (ps ++ p :: qs) with | some a, some b => some (a ++ b) | _, _ => none) = none
    rw [partsTxt_none qs h]
    cases q.text <;> rfl
theorem take_next {ps : List Part} {k : Nat} {p : Part} (h : ps[k]? = some p) : ps.take (k + 1) = ps.take k ++ [p] := by
  obtain ⟨hlt, rfl⟩ := List.getElem?_eq_some_iff.1 h
  rw [List.take_add_one, List.getElem?_eq_getElem hlt]; rfl
theorem split_at_part {ps : List Part} {k : Nat} {p : Part} (h : ps[k]? = some p) : ps = ps.take k ++ p :: ps.drop (k + 1) := by
  obtain ⟨hlt, rfl⟩ := List.getElem?_eq_some_iff.1 h
  rw [← List.drop_eq_getElem_cons hlt, List.take_append_drop]
set_option maxHeartbeats 2000000 in
theorem write_nothing_at {x : Value} {w : World} {b : Nat} {vn vt : Value} {xs : List UInt8} (hx : Deep x) (cP : PartsAt w x []) (h : Wr w b vn vt xs) : WriteAt w b vn vt xs x none := by
  unfold PartsAt at cP
  unfold WriteAt
  have hW := Lib.hid h
  obtain ⟨a1, a2, a3⟩ := hx
  go_enter Tryd.func48, Tryd.ntmps48
  go_wp2_with fail
  refine cP.mono ?_
  rintro e w1 ⟨v, rfl, ho, hb⟩
  obtain ⟨A, c, rfl⟩ := (Row.of_own ho).form
  have HB := Lib.hid hb
  clear ho hb
  try dsimp only [List.length_nil]
  go_wp2_with fail
  refine wp_loop_rounds 1 ?_
  rw [rounds_succ]
  go_wp2_with fail
  go_ret
  exact ⟨rfl, ⟨_, _, hW.out.go HB.out⟩, WrT.of_below HB.out (Nat.le_of_lt hW.out.lt)⟩
set_option maxHeartbeats 4000000 in
theorem write_parts_at {B : Nat} {x : Value} {ps : List Part} {w : World} {b : Nat} {vn vt : Value} {xs : List UInt8} (hx : Deep x) (cP : PartsAt w x ps) (hne : 1 ≤ ps.length) (h7 : ps.length ≤ 1000000) (hok : ∀ p ∈ ps, p.ok) (hW : ∀ p ∈ ps, WriteC (B + 60 * ps.length) p.val p.text)
    (h : Wr w b vn vt xs) (hl : xs.length ≤ B) (hT : TabsSB b w) : WriteAt w b vn vt xs x (partsTxt ps) := by
  unfold PartsAt at cP
  unfold WriteAt
  obtain ⟨out, hout⟩ : ∃ out, partsTxt ps = out := ⟨_, rfl⟩
  rw [hout]
  have HOUT := Lib.hid hout
  clear hout
  have HW := Lib.hid h
  have HL := Lib.hid hl
  have HT := Lib.hid hT
  have hlt := h.lt
  have HLT := Lib.hid hlt
  have HOK := Lib.hid hok
  have HWP := Lib.hid hW
  obtain ⟨a1, a2, a3⟩ := hx
  clear hT hl hlt hok hW h
  go_enter Tryd.func48, Tryd.ntmps48
  go_wp2_with fail
  refine cP.mono ?_
  rintro e w1 ⟨v, rfl, ho, hb⟩
  obtain ⟨g, c, rfl, hg1, hg2⟩ := own_form ho (by omega)
  have HB := Lib.hid hb
  have HO := Lib.hid ho
  have HW1 := Lib.hid (HW.out.go hb)
  have HT1 := Lib.hid (HT.out.go (hb.mono (Nat.le_of_lt HLT.out)))
  clear ho hb hg2 hg1 cP
  generalize hN : ps.length = n at *
  have HN := Lib.hid hN
  clear hN
  go_wp2_with fail
  go_loopw [61] (fun i wr => ∃ k : Nat, k ≤ n ∧ i = .int .i64 k ∧ (∃ vt' t, Wr wr b vn vt' (xs ++ t) ∧ partsTxt (ps.take k) = some t) ∧ WrT b w1 wr) (fun i _ => n - (intOf i).toNat)
  case atStart => exact ⟨0, Nat.zero_le _, rfl, ⟨vt, [], by rw [List.append_nil]; exact HW1.out, rfl⟩, WrT.of_below (Below.refl _ _) (by have := HW1.out.lt; omega)⟩
  case round =>
    obtain ⟨k, hk, rfl, ⟨vt', t, hw, ht⟩, hwt⟩ := hrel
    by_cases hkn : k < n
    · obtain ⟨p, hp⟩ : ∃ p, ps[k]? = some p := ⟨_, List.getElem?_eq_getElem (by rw [HN.out]; exact hkn)⟩
      have hmem : p ∈ ps := List.mem_of_getElem? hp
      have hown := hwt.own HO.out HLT.out (by decide)
      have hc := hown.cellAt k (by rw [Nat.mul_one]; exact hkn)
      have hv : (partVals ps)[k]? = some p.val := by unfold partVals; rw [List.getElem?_map, hp]; rfl
      rw [hv] at hc
      have htl := partsTxt_len (fun q hq => HOK.out q (List.mem_of_mem_take hq)) ht
      have htl2 : (ps.take k).length ≤ k := by rw [List.length_take]; omega
      have hB1 : Below b w wr := (HB.out.mono (Nat.le_of_lt HLT.out)).trans hwt.bel
      have hlx : (xs ++ t).length ≤ B + 60 * n := by rw [List.length_append]; have := HL.out; omega
      have cW := Lib.hid (HWP.out p hmem wr b vn vt' (xs ++ t) hw hlx (HT.out.go hB1))
      have HTK := Lib.hid ht
      have HWT := Lib.hid hwt
      have HP := Lib.hid hp
      have k0 : (0 : Int) ≤ k := by omega
      have k1 : (k : Int) < n := by omega
      have HKN := Lib.hid hkn
      have HKL := Lib.hid hk
      clear hown hv htl htl2 hB1 hw ht hwt hp hmem hk hkn
      generalize hpv : p.val = pv at *
      clear hpv
      cases hpt : p.text with
      | none =>
        rw [hpt] at cW
        have hres := Lib.hid (show partsTxt ps = none by rw [split_at_part HP.out]; exact partsTxt_none _ hpt)
        clear hpt
        obtain rfl : out = none := HOUT.out.symm.trans hres.out
        go_wp2_with fail
        refine cW.out.mono ?_
        rintro e w2 ⟨rfl, ⟨vt2, xs2, hw2⟩, ht2⟩
        have H2 := Lib.hid hw2
        have T2 := Lib.hid (((WrT.of_below HB.out (Nat.le_of_lt HLT.out)).trans HWT.out).trans ht2)
        clear hw2 ht2
        go_wp2_with fail
        go_ret
        exact ⟨rfl, ⟨_, _, H2.out⟩, T2.out⟩
      | some a =>
        rw [hpt] at cW
        have hres := Lib.hid (show partsTxt (ps.take (k + 1)) = some (t ++ a) by rw [take_next HP.out]; exact partsTxt_append HTK.out (partsTxt_some hpt))
        clear hpt
        go_wp2_with fail
        refine cW.out.mono ?_
        rintro e w2 ⟨rfl, ⟨vt2, hw2⟩, ht2⟩
        have H2 := Lib.hid hw2
        have T2 := Lib.hid (HWT.out.trans ht2)
        clear hw2 ht2
        go_wp2_with fail
        go_roundw
        case rel => exact ⟨k + 1, HKN.out, by go_num, ⟨vt2, t ++ a, by rw [← List.append_assoc]; exact H2.out, hres.out⟩, T2.out⟩
        case measure => have := HKN.out; simp only [intOf]; omega
    · have hkk : k = n := by omega
      subst hkk
      have hres := Lib.hid (show partsTxt ps = some t by rw [← ht, List.take_of_length_le (by rw [HN.out]; exact Nat.le_refl _)])
      obtain rfl : out = some t := HOUT.out.symm.trans hres.out
      have H2 := Lib.hid hw
      have T2 := Lib.hid ((WrT.of_below HB.out (Nat.le_of_lt HLT.out)).trans hwt)
      have k1 : decide ((k : Int) < (k : Int)) = false := decide_eq_false (by omega)
      have k2 : decide (0 < (k : Int)) = true := decide_eq_true (by omega)
      have k3 : decide (0 < k) = true := decide_eq_true (by omega)
      clear hw hwt ht hk hkn
      go_wp2_with fail
      go_ret
      exact ⟨by first | rfl | simp, ⟨_, H2.out⟩, T2.out⟩
theorem write_nothing {B : Nat} {x : Value} (hx : Deep x) (hP : PartsC x []) : WriteC B x none := fun w _ _ _ _ h _ hT => write_nothing_at hx (hP w hT.now) h
theorem write_parts {B : Nat} {x : Value} {ps : List Part} (hx : Deep x) (hP : PartsC x ps) (hne : 1 ≤ ps.length) (h7 : ps.length ≤ 1000000) (hok : ∀ p ∈ ps, p.ok) (hW : ∀ p ∈ ps, WriteC (B + 60 * ps.length) p.val p.text) : WriteC B x (partsTxt ps) :=
  fun w _ _ _ _ h hl hT => write_parts_at hx (hP w hT.now) hne h7 hok hW h hl hT
end Go.Proofs.YtcaibahniheohaaDoor.Words

/- What a writer's looks at its values answer. -/
namespace Go.Proofs.YtcaibahniheohaaDoor.Words
set_option maxRecDepth 100000
open Go.RowKit Go.Shelf Go.Lib
def zIns : Value := .agg #[.int .i64 0, .int .i64 0, .int .i64 0, .int .i64 0, .int .i64 0]
def zCell : Value := .agg #[.int .i64 0, .int .i64 0, .int .i64 0, .int .i64 0, .int .i64 0, .int .i64 0, .int .i64 0, .int .i64 0, .int .i64 0]
def zProg : Value := .agg #[.slice none 0 0, .int .i64 0, .slice none 0 0]
abbrev asT (x : Value) (t : TypeId) (v : Value) (b : Bool) : Prop := ∀ w, (Instr.typeAssert x 20 t true).run Tryd.prog w = .ok (.tuple #[v, .bool b]) w
theorem deep_reg (v : Value) : Deep (.iface 143 v) := ⟨fun _ => by kernel_rfl, fun _ => by kernel_rfl, fun _ => by kernel_rfl⟩
theorem deep_ins (v : Value) : Deep (.iface 38 v) := ⟨fun _ => by kernel_rfl, fun _ => by kernel_rfl, fun _ => by kernel_rfl⟩
theorem deep_cell (v : Value) : Deep (.iface 75 v) := ⟨fun _ => by kernel_rfl, fun _ => by kernel_rfl, fun _ => by kernel_rfl⟩
theorem deep_prog (v : Value) : Deep (.iface 26 v) := ⟨fun _ => by kernel_rfl, fun _ => by kernel_rfl, fun _ => by kernel_rfl⟩
theorem as_rr (v : Value) : asT (.iface 143 v) 143 v true := fun _ => by kernel_rfl
theorem as_ri (v : Value) : asT (.iface 143 v) 38 zIns false := fun _ => by kernel_rfl
theorem as_rc (v : Value) : asT (.iface 143 v) 75 zCell false := fun _ => by kernel_rfl
theorem as_rp (v : Value) : asT (.iface 143 v) 26 zProg false := fun _ => by kernel_rfl
theorem as_ir (v : Value) : asT (.iface 38 v) 143 (.int .i64 0) false := fun _ => by kernel_rfl
theorem as_ii (v : Value) : asT (.iface 38 v) 38 v true := fun _ => by kernel_rfl
theorem as_ic (v : Value) : asT (.iface 38 v) 75 zCell false := fun _ => by kernel_rfl
theorem as_ip (v : Value) : asT (.iface 38 v) 26 zProg false := fun _ => by kernel_rfl
theorem as_cr (v : Value) : asT (.iface 75 v) 143 (.int .i64 0) false := fun _ => by kernel_rfl
theorem as_ci (v : Value) : asT (.iface 75 v) 38 zIns false := fun _ => by kernel_rfl
theorem as_cc (v : Value) : asT (.iface 75 v) 75 v true := fun _ => by kernel_rfl
theorem as_pr (v : Value) : asT (.iface 26 v) 143 (.int .i64 0) false := fun _ => by kernel_rfl
theorem as_pi (v : Value) : asT (.iface 26 v) 38 zIns false := fun _ => by kernel_rfl
theorem as_pc (v : Value) : asT (.iface 26 v) 75 zCell false := fun _ => by kernel_rfl
theorem as_pp (v : Value) : asT (.iface 26 v) 26 v true := fun _ => by kernel_rfl
end Go.Proofs.YtcaibahniheohaaDoor.Words

/- Contract of package asm's instruction: an operation's fields, and the part that they make. -/
import Derived.Test.YtimdojeagkbgbaaDoorAsmBytes
import Derived.Test.YtimdojeagkbgbaaDoorIsaForm
import Derived.Test.YtimdojeagkbgbaaDoorLexSplit
import Derived.Lib.TrimAscii
namespace Go.Proofs.YtimdojeagkbgbaaDoor.Words
set_option maxRecDepth 100000
open Go.RowKit Go.Shelf Go.Lib
set_option linter.unusedVariables false
set_option linter.unusedSimpArgs false

/-- The table of what stands behind an operation's name is laid. -/
def Shapes (w : World) : Prop := 4 < w.heap.size ∧ ∀ k t, shapesZ[k]? = some t → w.cell? ⟨4, k, none⟩ = some (.string (txt t))
theorem Shapes.below {w w' : World} (h : Shapes w) (hb : Below w.heap.size w w') : Shapes w' :=
  ⟨Nat.lt_of_lt_of_le h.1 hb.size, fun k t ht => below_cell hb h.1 (h.2 k t ht)⟩
theorem shape_at (op : Int) : shapesZ[(formZ op).toNat]? = some (shapeZ op) := by
  have := formZ_range op
  unfold shapeZ
  rw [List.getD_eq_getElem?_getD, List.getElem?_eq_getElem (show (formZ op).toNat < shapesZ.length by show _ < 9; omega)]
  rfl
theorem shape_ok (op : Int) : ∀ c ∈ shapeZ op, c = 68 ∨ c = 65 ∨ c = 66 ∨ c = 78 ∨ c = 84 ∨ c = 44 ∨ c = 40 ∨ c = 41 := by
  have h : ∀ t ∈ shapesZ, ∀ c ∈ t, c = 68 ∨ c = 65 ∨ c = 66 ∨ c = 78 ∨ c = 84 ∨ c = 44 ∨ c = 40 ∨ c = 41 := by decide
  exact h _ (List.mem_iff_getElem?.2 ⟨_, shape_at op⟩)
theorem shape_len (op : Int) : (shapeZ op).length ≤ 6 := by
  have h : ∀ t ∈ shapesZ, t.length ≤ 6 := by decide
  exact h _ (List.mem_iff_getElem?.2 ⟨_, shape_at op⟩)
theorem regT_len (r : List Tok) : (regT r).2.length ≤ r.length := by
  cases r with
  | nil => simp [regT]
  | cons t ts =>
    have h : regT (t :: ts) = match regZ t.text with | some n => (some n, ts) | none => (none, t :: ts) := rfl
    rw [h]
    cases regZ t.text <;> simp
theorem immT_len (r : List Tok) : (immT r).2.length ≤ r.length := by
  cases r with
  | nil => simp [immT]
  | cons t ts =>
    have h : immT (t :: ts) = if t.kind = 2 then (some t.num, ts) else (none, t :: ts) := rfl
    rw [h]
    split <;> simp
theorem fieldT_len (c : Int) (x : PartZ) (r : List Tok) : (fieldT c x r).2.2.length ≤ r.length := by
  have h1 := regT_len r
  have h2 := immT_len r
  have h3 := signT_len [UInt8.ofNat c.toNat] r
  unfold fieldT
  split
  · generalize regT r = Q at *; obtain ⟨o, ts⟩ := Q; cases o <;> exact h1
  split
  · generalize regT r = Q at *; obtain ⟨o, ts⟩ := Q; cases o <;> exact h1
  split
  · generalize regT r = Q at *; obtain ⟨o, ts⟩ := Q; cases o <;> exact h1
  split
  · generalize immT r = Q at *; obtain ⟨o, ts⟩ := Q; cases o <;> exact h2
  split
  · cases r with
    | nil => simp
    | cons t ts =>
      by_cases hk : t.kind = 1
      · simp [hk]
      · simp only [hk, if_false]
        generalize immT (t :: ts) = Q at *; obtain ⟨o, ts2⟩ := Q; cases o <;> exact h2
  · exact h3
theorem fieldsT_len : ∀ (l : List UInt8) (x : PartZ) (r : List Tok), (fieldsT l x r).2.2.length ≤ r.length
  | [], x, r => Nat.le_refl _
  | c :: cs, x, r => by
    unfold fieldsT
    have h1 := fieldT_len c.toNat x r
    split
    · exact Nat.le_trans (fieldsT_len cs _ _) h1
    · exact h1
theorem fieldsT_drop {l : List UInt8} {k : Nat} {c : UInt8} (h : l[k]? = some c) (x : PartZ) (r : List Tok) : fieldsT (l.drop k) x r = if (fieldT c.toNat x r).1 = true then fieldsT (l.drop (k + 1)) (fieldT c.toNat x r).2.1 (fieldT c.toNat x r).2.2 else fieldT c.toNat x r := by
  have hd : l.drop k = c :: l.drop (k + 1) := by
    obtain ⟨hk, rfl⟩ := List.getElem?_eq_some_iff.1 h
    exact List.drop_eq_getElem_cons hk
  rw [hd]; rfl
theorem ascii_at {l : List UInt8} {k : Nat} {c : UInt8} (h : l[k]? = some c) (hc : c.toNat < 128) : runeR (l.drop k) = c.toNat ∧ wideR (l.drop k) = 1 := by
  have hd : l.drop k = c :: l.drop (k + 1) := by
    obtain ⟨hk, rfl⟩ := List.getElem?_eq_some_iff.1 h
    exact List.drop_eq_getElem_cons hk
  unfold runeR wideR
  rw [hd, Lib.decodeL_ascii _ _ hc]
  exact ⟨rfl, rfl⟩
theorem insT_no {op : Int} {at_ : Nat} {r : List Tok} {z : PartZ} {r' : List Tok} (h : fieldsT (shapeZ op) ⟨2, at_, 0, [], ⟨op, 0, 0, 0, 0⟩, tok0⟩ r = (false, z, r')) : insT op at_ r = (false, r', []) := by
  unfold insT; rw [h]; simp
theorem insT_yes {op : Int} {at_ : Nat} {r : List Tok} {z : PartZ} {r' : List Tok} (h : fieldsT (shapeZ op) ⟨2, at_, 0, [], ⟨op, 0, 0, 0, 0⟩, tok0⟩ r = (true, z, r')) : insT op at_ r = (true, r', [z]) := by
  unfold insT; rw [h]; simp
theorem insT_len (op : Int) (at_ : Nat) (r : List Tok) : (insT op at_ r).2.1.length ≤ r.length := by
  have := fieldsT_len (shapeZ op) ⟨2, at_, 0, [], ⟨op, 0, 0, 0, 0⟩, tok0⟩ r
  unfold insT
  split <;> exact this

set_option maxHeartbeats 4000000 in
theorem instruction_any (op : Int) (at_ : Nat) (w : World) (b e : Nat) (r : List Tok) (vp : Value) (ps : List PartZ) (hP : Par w b e r vp ps) (hS : Shapes w) (hgb : 4 < b) (hps : ps.length + r.length ≤ 1000000) :
    Calls Tryd.prog 91 #[.pointer (some ⟨b, 0, none⟩), .int .i64 op, .int .i64 (at_ : Int)] w (AppOut w b e ps (insT op at_ r)) := by
  have HP := Lib.hid hP
  have hlt := hP.lt
  have HPS := Lib.hid hps
  have cF := form_any op
  obtain ⟨f0, f8⟩ := formZ_range op
  obtain ⟨K, hK⟩ : ∃ K : Nat, formZ op = (K : Int) := ⟨(formZ op).toNat, by omega⟩
  have hKt : (formZ op).toNat = K := by omega
  have hsh := hS.2 (formZ op).toNat (shapeZ op) (shape_at op)
  rw [hKt] at hsh
  have HSO := Lib.hid (shape_ok op)
  have HSL := Lib.hid (shape_len op)
  obtain ⟨F, hF⟩ : ∃ F, F = fieldsT (shapeZ op) ⟨2, at_, 0, [], ⟨op, 0, 0, 0, 0⟩, tok0⟩ r := ⟨_, rfl⟩
  have HF := Lib.hid hF
  have HNO : Hid (∀ z r', F = (false, z, r') → insT op at_ r = (false, r', [])) := fun z r' h => insT_no (hF.symm.trans h)
  have HYES : Hid (∀ z r', F = (true, z, r') → insT op at_ r = (true, r', [z])) := fun z r' h => insT_yes (hF.symm.trans h)
  have X2 : Hid (Box (w.alloc (.cells #[.int .i64 2, .int .i64 (at_ : Int), .int .i64 0, .string ⟨#[]⟩, .int .i64 op, .int .i64 0, .int .i64 0, .int .i64 0, .int .i64 0, .int .i64 0, .int .i64 0, .int .i64 0, .string ⟨#[]⟩] 77)) w.heap.size (partL ⟨2, at_, 0, [], ⟨op, 0, 0, 0, 0⟩, tok0⟩)) := Box.new w (partL ⟨2, at_, 0, [], ⟨op, 0, 0, 0, 0⟩, tok0⟩) _
  have P2 := Lib.hid (hP.alloc (.cells #[.int .i64 2, .int .i64 (at_ : Int), .int .i64 0, .string ⟨#[]⟩, .int .i64 op, .int .i64 0, .int .i64 0, .int .i64 0, .int .i64 0, .int .i64 0, .int .i64 0, .int .i64 0, .string ⟨#[]⟩] 77))
  have HNB := Lib.hid (hP.not (Nat.le_refl w.heap.size))
  have hgw : 4 < w.heap.size := hS.1
  have HVB : Hid (∀ g, vp.ownBlock = some g → g < w.heap.size) := fun g hg => (hP.own.lt g hg).2
  have ixk : (0 : Int) ≤ K ∧ (K : Int) < 9 := by omega
  obtain ⟨ix0, ix1⟩ := ixk
  generalize insT op at_ r = Z at *
  rw [hK] at cF
  generalize shapeZ op = sh at *
  clear hP hS hps hF f0 f8 hK hKt
  go_enter Tryd.func91, Tryd.ntmps91
  go_wp2_with fail
  refine (cF _).mono ?_; rintro en w2 ⟨rfl, rfl⟩
  have hsh2 : (w.alloc (.cells #[.int .i64 2, .int .i64 (at_ : Int), .int .i64 0, .string ⟨#[]⟩, .int .i64 op, .int .i64 0, .int .i64 0, .int .i64 0, .int .i64 0, .int .i64 0, .int .i64 0, .int .i64 0, .string ⟨#[]⟩] 77)).cell? ⟨4, K, none⟩ = some (.string (txt sh)) := (World.cell?_alloc_lt _ _ _ hgw).trans hsh
  have hsz2 : (w.alloc (.cells #[.int .i64 2, .int .i64 (at_ : Int), .int .i64 0, .string ⟨#[]⟩, .int .i64 op, .int .i64 0, .int .i64 0, .int .i64 0, .int .i64 0, .int .i64 0, .int .i64 0, .int .i64 0, .string ⟨#[]⟩] 77)).heap.size = w.heap.size + 1 := by simp
  have B2 : Hid (Below w.heap.size w (w.alloc (.cells #[.int .i64 2, .int .i64 (at_ : Int), .int .i64 0, .string ⟨#[]⟩, .int .i64 op, .int .i64 0, .int .i64 0, .int .i64 0, .int .i64 0, .int .i64 0, .int .i64 0, .int .i64 0, .string ⟨#[]⟩] 77))) := (Below.refl _ _).alloc (Nat.le_refl _) _
  generalize (w.alloc (.cells #[.int .i64 2, .int .i64 (at_ : Int), .int .i64 0, .string ⟨#[]⟩, .int .i64 op, .int .i64 0, .int .i64 0, .int .i64 0, .int .i64 0, .int .i64 0, .int .i64 0, .int .i64 0, .string ⟨#[]⟩] 77)) = w2 at *
  clear hsh
  go_wp2_with fail
  go_loopw [] (fun wr => ∃ (k : Nat) (z : PartZ) (r1 : List Tok), Par wr b e r1 vp ps ∧ Box wr w.heap.size (partL z) ∧ wr.heap[w.heap.size + 1]? = some (.stringIter (txt sh) k) ∧ Below b w wr ∧ fieldsT (sh.drop k) z r1 = F ∧ k ≤ sh.length ∧ r1.length ≤ r.length) (fun wr => (txt sh).size - wr.iterPos (w.heap.size + 1))
  case atStart =>
    have hi := World.iter_heap w2 (txt sh) 0
    rw [hsz2] at hi
    have hal : Below w2.heap.size w2 (w2.iter (txt sh) 0) := (Below.refl _ w2).alloc (Nat.le_refl _) _
    exact ⟨0, _, r, P2.out.go hal, X2.out.below hal (by omega), hi, (B2.out.mono (Nat.le_of_lt hlt)).trans (hal.mono (by omega)), HF.out.symm, Nat.zero_le _, Nat.le_refl _⟩
  case round =>
    obtain ⟨k, z, r1, hp, hx, hit, hbw, hn, hk, hl⟩ := hrel
    have HP1 := Lib.hid hp
    have HX1 := Lib.hid hx
    have HIT := Lib.hid hit
    have HBW := Lib.hid hbw
    have HN := Lib.hid hn
    have HL := Lib.hid hl
    have HK := Lib.hid hk
    have hsz : w.heap.size + 1 < wr.heap.size := (Array.getElem?_eq_some_iff.1 hit).1
    have hts := txt_sz sh
    by_cases hlk : k < sh.length
    · obtain ⟨c, hc⟩ : ∃ c, sh[k]? = some c := ⟨_, List.getElem?_eq_getElem hlk⟩
      have hcm : c ∈ sh := List.mem_iff_getElem?.2 ⟨k, hc⟩
      have hco := HSO.out c hcm
      have hc128 : c.toNat < 128 := by rcases hco with rfl | rfl | rfl | rfl | rfl | rfl | rfl | rfl <;> decide
      have hcI : (c.toNat : Int) = 68 ∨ (c.toNat : Int) = 65 ∨ (c.toNat : Int) = 66 ∨ (c.toNat : Int) = 78 ∨ (c.toNat : Int) = 84 ∨ (c.toNat : Int) = 44 ∨ (c.toNat : Int) = 40 ∨ (c.toNat : Int) = 41 := by
        rcases hco with rfl | rfl | rfl | rfl | rfl | rfl | rfl | rfl <;> decide
      have hnx := fun ty => next_rune (P := Tryd.prog) hit (show k < (txt sh).size by rw [hts]; exact hlk) ty
      obtain ⟨q1, q2⟩ := ascii_at hc hc128
      rw [txt_data, q1, q2] at hnx
      have HST := Lib.hid (fieldsT_drop hc z r1)
      have KI : Hid (KeepS (fun j => j = w.heap.size + 1) wr (wr.iterAt (w.heap.size + 1) (txt sh) (k + 1))) := KeepS.of_grown (iterAt_grown _ _ _ _) (fun j hj => by injection hj with hj; exact hj.symm)
      have hit2 := Lib.hid (Lib.iterAt_heap wr (w.heap.size + 1) (txt sh) k (k + 1) hit)
      have hsz2b : (wr.iterAt (w.heap.size + 1) (txt sh) (k + 1)).heap.size = wr.heap.size := Lib.iterAt_size _ _ _ _
      have hpI : Par (wr.iterAt (w.heap.size + 1) (txt sh) (k + 1)) b e r1 vp ps := hp.keepS KI.out (fun j hj => by omega) (fun g hg e => by have := HVB.out g hg; omega)
      have hxI : Box (wr.iterAt (w.heap.size + 1) (txt sh) (k + 1)) w.heap.size (partL z) := hx.keepS KI.out (fun e => by omega)
      have BI := Lib.hid (hbw.trans (KI.out.below (show b ≤ wr.heap.size by omega) (fun j hj => by omega)))
      have hFd := field_any (c.toNat : Int) hcI _ b e r1 vp ps w.heap.size z hpI hxI hlt HNB.out
      have hln := fieldT_len (c.toNat : Int) z r1
      have HLN := Lib.hid hln
      have c0 : (0 : Int) ≤ c.toNat ∧ (c.toNat : Int) ≤ 1114111 := by omega
      generalize (c.toNat : Int) = C at *
      generalize fieldT C z r1 = FT at *
      obtain ⟨ok, z2, r2⟩ := FT
      have HSZ2 := Lib.hid hsz2b
      clear hp hx hit hbw hn hk hl hc hcm hco hc128 hcI q1 q2 hpI hxI hln hsz2b
      cases ok
      · have hz : Hid (Z = (false, r2, [])) := HNO.out z2 r2 (by rw [← HN.out, HST.out]; simp)
        go_wp2_with fail
        refine hFd.mono ?_; rintro en w3 ⟨rfl, hp3, hx3, hk3⟩
        have HP3 := Lib.hid hp3
        have HB3 := Lib.hid (BI.out.trans (hk3.below (by rw [HSZ2.out]; omega) (fun j hj => by omega)))
        clear hp3 hx3 hk3
        go_wp2_with fail
        go_ret
        exact ⟨by rw [hz.out]; rfl, vp, by rw [hz.out]; simpa using HP3.out, HB3.out⟩
      · have hz : Hid (fieldsT (sh.drop (k + 1)) z2 r2 = F) := by show _ = _; rw [← HN.out, HST.out]; simp
        go_wp2_with fail
        refine hFd.mono ?_; rintro en w3 ⟨rfl, hp3, hx3, hk3⟩
        have HP3 := Lib.hid hp3
        have HX3 := Lib.hid hx3
        have HB3 := Lib.hid (BI.out.trans (hk3.below (by rw [HSZ2.out]; omega) (fun j hj => by omega)))
        have hit3 : w3.heap[w.heap.size + 1]? = some (.stringIter (txt sh) (k + 1)) := (hk3.block _ (by rw [HSZ2.out]; exact hsz) (fun e => by omega)).trans hit2.out
        clear hp3 hx3 hk3
        go_wp2_with fail
        go_roundw
        case rel => exact ⟨k + 1, z2, r2, HP3.out, HX3.out, hit3, HB3.out, hz.out, by omega, Nat.le_trans HLN.out HL.out⟩
        case measure =>
          simp only [World.iterPos, hit3, HIT.out]
          omega
    · have hnx := fun ty => next_none (P := Tryd.prog) hit (show ¬ k < (txt sh).size by rw [hts]; exact hlk) ty
      have hz : Hid (Z = (true, r1, [z])) := HYES.out z r1 (by
        rw [← HN.out, List.drop_eq_nil_of_le (by omega)]; rfl)
      have HZ := hz
      have HX3 := HX1
      have HP3 : Hid (Par wr.drew b e r1 vp ps) := hp.drewN 1
      have HBX := HBW
      have hbxb : b ≠ w.heap.size := by omega
      have hps0 : ps.length ≤ 1000000 := by have := HPS.out; omega
      have HPS := Lib.hid hps0
      clear hp hx hit hbw hn hk hl hps0 HN
      go_wp2_with fail
      refine wp_region_tree (fun a x => _) (LinT.of [(0, true), (1, true), (2, true), (3, true), (5, true)] (.two 4 6 (LinT.of [(6, false), (7, false), (8, true), (9, true), (10, false)] .nil) (LinT.of [(4, false), (7, false), (8, true), (9, true), (10, false)] .nil))) (by kernel_rfl) (by kernel_rfl) rfl (by kernel_rfl) (fun x => Box x w.heap.size (partL z)) (fun _ _ h => h) ?_
      simp only [LinT.of, LinT.look, List.getElem?_toArray, List.getElem?_cons_succ, List.getElem?_cons_zero]
      have hS0 : Box wr.drew w.heap.size (partL z) := HX3.out.drew
      iterate 4 (refine tree_take (v := ?_) hS0 (by rfl) ?_ ?_; rotate_left; (intro x hx; go_simp; try (with_reducible rfl)); (simp only [Act.put, List.setIfInBounds_toArray, List.set_cons_zero, List.set_cons_succ]))
      refine tree_get_box hS0 (by rfl) 77 (.tmp 7) rfl w.heap.size 0 rfl (partL z) [.int .i64 z.kind, .int .i64 (z.at_ : Int), .int .i64 z.num, .string (txt z.name), .int .i64 z.ins.op, .int .i64 z.ins.d, .int .i64 z.ins.a, .int .i64 z.ins.b, .int .i64 z.ins.imm, .int .i64 z.target.kind, .int .i64 z.target.num, .int .i64 (z.target.at_ : Int), .string (txt z.target.text)] (fun y hy => hy) (fun j v hj => by rw [Nat.zero_add]; exact hj) _ Tryd.underlying77 rfl 13 size_part rfl ?_
      simp only [Act.put, List.setIfInBounds_toArray, List.set_cons_zero, List.set_cons_succ]
      obtain ⟨i0, hi, hz0, hz1, hz2⟩ := info_parts info_part
      have HI := Lib.hid hi
      have HZ0 := Lib.hid hz0
      have HZ1 := Lib.hid hz1
      have HZ2 := Lib.hid hz2
      clear hi hz0 hz1 hz2
      have c3 := HP3.out.parts
      have hbl := HP3.out.lt
      have HLT := Lib.hid hbl
      have hbl2 : b < wr.heap.size := hbl
      have hps := HPS.out
      have END : ∀ (o : Obj) (y3 : World) (v3 : Value), (wr.drew.alloc o).grownBy y3 vp.ownBlock → y3.ownsRow (b + 1) 77 13 v3 (ps.length + 1) (partsL ps ++ partL z) →
          (Par (y3.setCell ⟨b, 3, none⟩ v3) b e r1 v3 (ps ++ [z]) ∧ Below b w (y3.setCell ⟨b, 3, none⟩ v3)) ∧ Box y3 w.heap.size (partL z) ∧ y3.cell? ⟨b, 3, none⟩ = some vp ∧ y3.frozen? ⟨b, 3, none⟩ = false ∧ b < y3.heap.size ∧ ∃ A3 k3, v3 = .slice A3 (ps.length + 1) k3 := by
        intro o y3 v3 hg ho
        have hne : some b ≠ vp.ownBlock := fun e => by have := (HP3.out.own.lt b e.symm).1; omega
        obtain ⟨q1, q2⟩ := HP3.out.app hg ho rfl
        obtain ⟨A3, k3, h3⟩ := (Row.of_own ho).form
        have hb2 := ((HP3.out.alloc o).go (Below.refl _ _))
        refine ⟨⟨q1, HBX.out.trans ((Below.refl b wr).drew.trans q2)⟩, (HX3.out.drew.alloc o).grown hg (fun e => HNB.out e.symm), hg.cell (hb2.parts) hne, ?_, ?_, A3, k3, h3⟩
        · rw [World.frozen?_of_block (w := wr.drew.alloc o) (hg.block b hb2.lt hne)]; exact hb2.frozen 3
        · have := hg.size; have := hb2.lt; omega
      have HEND := Lib.hid END
      clear END
      refine tree_two hS0 (by rfl) (by rfl) (fun K hK => ?_) (fun K hK => ?_)
      · go_simp
        refine hK.out _ _ hS0 (fun _ => ?_)
        clear hK K
        try (simp only [Act.put, List.setIfInBounds_toArray, List.set_cons_zero, List.set_cons_succ])
        refine tree_call hS0 (by rfl) (fun K hK => ?_)
        go_simp
        have hSa : Box (wr.drew.alloc (.cells #[.int .i64 z.kind, .int .i64 (z.at_ : Int), .int .i64 z.num, .string (txt z.name), .int .i64 z.ins.op, .int .i64 z.ins.d, .int .i64 z.ins.a, .int .i64 z.ins.b, .int .i64 z.ins.imm, .int .i64 z.target.kind, .int .i64 z.target.num, .int .i64 (z.target.at_ : Int), .string (txt z.target.text)] 77)) w.heap.size (partL z) := hS0.alloc _
        refine hK.out _ _ hSa (fun _ => ?_)
        clear hK K
        try (simp only [Act.put, List.setIfInBounds_toArray, List.set_cons_zero, List.set_cons_succ])
        refine tree_call hSa (by rfl) (fun K hK => ?_)
        refine wp_append_row _ (.tmp 30) (.tmp 32) 68 rfl (b + 1) 77 i0 _ 13 120 Tryd.underlying68 HI.out HZ0.out HZ1.out HZ2.out rfl (by omega) _ ps.length (partsL ps) rfl (HP3.out.own.alloc _) _ (.slice (some ⟨wr.heap.size, 0, none⟩) 1 1) 1 (partL z) rfl (row_part wr.drew z _) (partL_cell _) (by unfold maxLen; omega) (by omega) (by simp; omega) ?_
        intro v3 y3 hO3 hg3
        obtain ⟨PA, hS3, q3, q4, hy3, A3, k3, rfl⟩ := HEND.out _ _ _ hg3 hO3
        have HPA := Lib.hid PA
        clear hO3 hg3 PA
        refine hK.out _ _ hS3 (fun _ => ?_)
        clear hK K
        try (simp only [Act.put, List.setIfInBounds_toArray, List.set_cons_zero, List.set_cons_succ])
        iterate 2 (refine tree_take (v := ?_) hS3 (by rfl) ?_ ?_; rotate_left; (intro x hx; go_simp; try (with_reducible rfl)); (simp only [Act.put, List.setIfInBounds_toArray, List.set_cons_zero, List.set_cons_succ]))
        refine tree_call hS3 (by rfl) (fun K hK => ?_)
        go_simp
        refine hK.out _ _ (hS3.setCell_other hbxb.symm 3 _) (fun _ => ?_)
        clear hK K
        refine tree_done ?_
        try (simp only [Act.put, List.setIfInBounds_toArray, List.set_cons_zero, List.set_cons_succ])
        go_wp2_with fail
        go_ret
        exact ⟨by rw [HZ.out]; rfl, _, by rw [HZ.out]; exact HPA.out.1, HPA.out.2⟩
      · go_simp
        have hSa : Box (wr.drew.alloc (.cells #[.int .i64 z.kind, .int .i64 (z.at_ : Int), .int .i64 z.num, .string (txt z.name), .int .i64 z.ins.op, .int .i64 z.ins.d, .int .i64 z.ins.a, .int .i64 z.ins.b, .int .i64 z.ins.imm, .int .i64 z.target.kind, .int .i64 z.target.num, .int .i64 (z.target.at_ : Int), .string (txt z.target.text)] 77)) w.heap.size (partL z) := hS0.alloc _
        have c3a : (wr.drew.alloc (.cells #[.int .i64 z.kind, .int .i64 (z.at_ : Int), .int .i64 z.num, .string (txt z.name), .int .i64 z.ins.op, .int .i64 z.ins.d, .int .i64 z.ins.a, .int .i64 z.ins.b, .int .i64 z.ins.imm, .int .i64 z.target.kind, .int .i64 z.target.num, .int .i64 (z.target.at_ : Int), .string (txt z.target.text)] 77)).cell? ⟨b, 3, none⟩ = some vp := (World.cell?_alloc_lt _ _ _ hbl).trans c3
        have c3b := (show (wr.alloc (.cells #[.int .i64 z.kind, .int .i64 (z.at_ : Int), .int .i64 z.num, .string (txt z.name), .int .i64 z.ins.op, .int .i64 z.ins.d, .int .i64 z.ins.a, .int .i64 z.ins.b, .int .i64 z.ins.imm, .int .i64 z.target.kind, .int .i64 z.target.num, .int .i64 (z.target.at_ : Int), .string (txt z.target.text)] 77)).cell? ⟨b, 3, none⟩ = some vp from c3a)
        refine hK.out _ _ hSa (fun _ => ?_)
        clear hK K
        try (simp only [Act.put, List.setIfInBounds_toArray, List.set_cons_zero, List.set_cons_succ])
        refine tree_call hSa (by rfl) (fun K hK => ?_)
        go_simp
        refine hK.out _ _ hSa (fun _ => ?_)
        clear hK K
        try (simp only [Act.put, List.setIfInBounds_toArray, List.set_cons_zero, List.set_cons_succ])
        refine tree_call hSa (by rfl) (fun K hK => ?_)
        refine wp_append_row _ (.tmp 30) (.tmp 32) 68 rfl (b + 1) 77 i0 _ 13 120 Tryd.underlying68 HI.out HZ0.out HZ1.out HZ2.out rfl (by omega) _ ps.length (partsL ps) rfl (HP3.out.own.alloc _) _ (.slice (some ⟨wr.heap.size, 0, none⟩) 1 1) 1 (partL z) rfl (row_part wr.drew z _) (partL_cell _) (by unfold maxLen; omega) (by omega) (by simp; omega) ?_
        intro v3 y3 hO3 hg3
        obtain ⟨PA, hS3, q3, q4, hy3, A3, k3, rfl⟩ := HEND.out _ _ _ hg3 hO3
        have HPA := Lib.hid PA
        clear hO3 hg3 PA
        refine hK.out _ _ hS3 (fun _ => ?_)
        clear hK K
        try (simp only [Act.put, List.setIfInBounds_toArray, List.set_cons_zero, List.set_cons_succ])
        iterate 2 (refine tree_take (v := ?_) hS3 (by rfl) ?_ ?_; rotate_left; (intro x hx; go_simp; try (with_reducible rfl)); (simp only [Act.put, List.setIfInBounds_toArray, List.set_cons_zero, List.set_cons_succ]))
        refine tree_call hS3 (by rfl) (fun K hK => ?_)
        go_simp
        refine hK.out _ _ (hS3.setCell_other hbxb.symm 3 _) (fun _ => ?_)
        clear hK K
        refine tree_done ?_
        try (simp only [Act.put, List.setIfInBounds_toArray, List.set_cons_zero, List.set_cons_succ])
        go_wp2_with fail
        go_ret
        exact ⟨by rw [HZ.out]; rfl, _, by rw [HZ.out]; exact HPA.out.1, HPA.out.2⟩
end Go.Proofs.YtimdojeagkbgbaaDoor.Words

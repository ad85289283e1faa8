/- Several texts in one: AsmIns, AsmLabel, AsmStmt, AsmLine, AsmMap. -/
import Derived.Test.YtfdegdbknponkaaDoorG04
import Derived.Lib.TrimAscii
import Derived.Deep.QuietTactic
import Derived.BigQuiet
import Derived.Maps.OwnSet
import Derived.Maps.OwnOps
import Derived.WalkKit

/- Contract of package asm's instruction: an operation's fields, and the part that they make. -/
namespace Go.Proofs.YtfdegdbknponkaaDoor.Words
set_option maxRecDepth 100000
open Go.RowKit Go.Shelf Go.Lib
set_option linter.unusedVariables false
set_option linter.unusedSimpArgs false

/-- The table of what stands behind an operation's name is laid. -/
def Shapes (w : World) : Prop := 2 < w.heap.size ∧ ∀ k t, shapesZ[k]? = some t → w.cell? ⟨2, k, none⟩ = some (.string (txt t))
theorem Shapes.below {w w' : World} (h : Shapes w) (hb : Below w.heap.size w w') : Shapes w' :=
  ⟨Nat.lt_of_lt_of_le h.1 hb.size, fun k t ht => below_cell hb h.1 (h.2 k t ht)⟩
theorem shape_at (op : Int) : shapesZ[(formZ op).toNat]? = some (shapeZ op) := by
  have := formZ_range op
  unfold shapeZ
  rw [List.getD_eq_getElem?_getD, List.getElem?_eq_getElem (show (formZ op).toNat < shapesZ.length by show _ < 9; omega)]
  rfl
theorem shape_ok (op : Int) : ∀ c ∈ shapeZ op, c = 68 ∨ c = 65 ∨ c = 66 ∨ c = 78 ∨ c = 84 ∨ c = 44 ∨ c = 40 ∨ c = 41 := by
  have h : ∀ t ∈ shapesZ, ∀ c ∈ t, c = 68 ∨ c = 65 ∨ c = 66 ∨ c = 78 ∨ c = 84 ∨ c = 44 ∨ c = 40 ∨ c = 41 := by decide
  exact h _ (List.mem_iff_getElem?.2 ⟨_, shape_at op⟩)
theorem shape_len (op : Int) : (shapeZ op).length ≤ 6 := by
  have h : ∀ t ∈ shapesZ, t.length ≤ 6 := by decide
  exact h _ (List.mem_iff_getElem?.2 ⟨_, shape_at op⟩)
theorem regT_len (r : List Tok) : (regT r).2.length ≤ r.length := by
  cases r with
  | nil => simp [regT]
  | cons t ts =>
    have h : regT (t :: ts) = match regZ t.text with | some n => (some n, ts) | none => (none, t :: ts) := rfl
    rw [h]
    cases regZ t.text <;> simp
theorem immT_len (r : List Tok) : (immT r).2.length ≤ r.length := by
  cases r with
  | nil => simp [immT]
  | cons t ts =>
    have h : immT (t :: ts) = if t.kind = 2 then (some t.num, ts) else (none, t :: ts) := rfl
    rw [h]
    split <;> simp
theorem fieldT_len (c : Int) (x : PartZ) (r : List Tok) : (fieldT c x r).2.2.length ≤ r.length := by
  have h1 := regT_len r
  have h2 := immT_len r
  have h3 := signT_len [UInt8.ofNat c.toNat] r
  unfold fieldT
  split
  · generalize regT r = Q at *; obtain ⟨o, ts⟩ := Q; cases o <;> exact h1
  split
  · generalize regT r = Q at *; obtain ⟨o, ts⟩ := Q; cases o <;> exact h1
  split
  · generalize regT r = Q at *; obtain ⟨o, ts⟩ := Q; cases o <;> exact h1
  split
  · generalize immT r = Q at *; obtain ⟨o, ts⟩ := Q; cases o <;> exact h2
  split
  · cases r with
    | nil => simp
    | cons t ts =>
      by_cases hk : t.kind = 1
      · simp [hk]
      · simp only [hk, if_false]
        generalize immT (t :: ts) = Q at *; obtain ⟨o, ts2⟩ := Q; cases o <;> exact h2
  · exact h3
theorem fieldsT_len : ∀ (l : List UInt8) (x : PartZ) (r : List Tok), (fieldsT l x r).2.2.length ≤ r.length
  | [], x, r => Nat.le_refl _
  | c :: cs, x, r => by
    unfold fieldsT
    have h1 := fieldT_len c.toNat x r
    split
    · exact Nat.le_trans (fieldsT_len cs _ _) h1
    · exact h1
theorem fieldsT_drop {l : List UInt8} {k : Nat} {c : UInt8} (h : l[k]? = some c) (x : PartZ) (r : List Tok) : fieldsT (l.drop k) x r = if (fieldT c.toNat x r).1 = true then fieldsT (l.drop (k + 1)) (fieldT c.toNat x r).2.1 (fieldT c.toNat x r).2.2 else fieldT c.toNat x r := by
  have hd : l.drop k = c :: l.drop (k + 1) := by
    obtain ⟨hk, rfl⟩ := List.getElem?_eq_some_iff.1 h
    exact List.drop_eq_getElem_cons hk
  rw [hd]; rfl
theorem ascii_at {l : List UInt8} {k : Nat} {c : UInt8} (h : l[k]? = some c) (hc : c.toNat < 128) : runeR (l.drop k) = c.toNat ∧ wideR (l.drop k) = 1 := by
  have hd : l.drop k = c :: l.drop (k + 1) := by
    obtain ⟨hk, rfl⟩ := List.getElem?_eq_some_iff.1 h
    exact List.drop_eq_getElem_cons hk
  unfold runeR wideR
  rw [hd, Lib.decodeL_ascii _ _ hc]
  exact ⟨rfl, rfl⟩
theorem insT_no {op : Int} {at_ : Nat} {r : List Tok} {z : PartZ} {r' : List Tok} (h : fieldsT (shapeZ op) ⟨2, at_, 0, [], ⟨op, 0, 0, 0, 0⟩, tok0⟩ r = (false, z, r')) : insT op at_ r = (false, r', []) := by
  unfold insT; rw [h]; simp
theorem insT_yes {op : Int} {at_ : Nat} {r : List Tok} {z : PartZ} {r' : List Tok} (h : fieldsT (shapeZ op) ⟨2, at_, 0, [], ⟨op, 0, 0, 0, 0⟩, tok0⟩ r = (true, z, r')) : insT op at_ r = (true, r', [z]) := by
  unfold insT; rw [h]; simp
theorem insT_len (op : Int) (at_ : Nat) (r : List Tok) : (insT op at_ r).2.1.length ≤ r.length := by
  have := fieldsT_len (shapeZ op) ⟨2, at_, 0, [], ⟨op, 0, 0, 0, 0⟩, tok0⟩ r
  unfold insT
  split <;> exact this

set_option maxHeartbeats 4000000 in
theorem instruction_any (op : Int) (at_ : Nat) (w : World) (b e : Nat) (r : List Tok) (vp : Value) (ps : List PartZ) (hP : Par w b e r vp ps) (hS : Shapes w) (hgb : 2 < b) (hps : ps.length + r.length ≤ 1000000) :
    Calls Tryd.prog 91 #[.pointer (some ⟨b, 0, none⟩), .int .i64 op, .int .i64 (at_ : Int)] w (AppOut w b e ps (insT op at_ r)) := by
  have HP := Lib.hid hP
  have hlt := hP.lt
  have HPS := Lib.hid hps
  have cF := form_any op
  obtain ⟨f0, f8⟩ := formZ_range op
  obtain ⟨K, hK⟩ : ∃ K : Nat, formZ op = (K : Int) := ⟨(formZ op).toNat, by omega⟩
  have hKt : (formZ op).toNat = K := by omega
  have hsh := hS.2 (formZ op).toNat (shapeZ op) (shape_at op)
  rw [hKt] at hsh
  have HSO := Lib.hid (shape_ok op)
  have HSL := Lib.hid (shape_len op)
  obtain ⟨F, hF⟩ : ∃ F, F = fieldsT (shapeZ op) ⟨2, at_, 0, [], ⟨op, 0, 0, 0, 0⟩, tok0⟩ r := ⟨_, rfl⟩
  have HF := Lib.hid hF
  have HNO : Hid (∀ z r', F = (false, z, r') → insT op at_ r = (false, r', [])) := fun z r' h => insT_no (hF.symm.trans h)
  have HYES : Hid (∀ z r', F = (true, z, r') → insT op at_ r = (true, r', [z])) := fun z r' h => insT_yes (hF.symm.trans h)
  have X2 : Hid (Box (w.alloc (.cells #[.int .i64 2, .int .i64 (at_ : Int), .int .i64 0, .string ⟨#[]⟩, .int .i64 op, .int .i64 0, .int .i64 0, .int .i64 0, .int .i64 0, .int .i64 0, .int .i64 0, .int .i64 0, .string ⟨#[]⟩] 69)) w.heap.size (partL ⟨2, at_, 0, [], ⟨op, 0, 0, 0, 0⟩, tok0⟩)) := Box.new w (partL ⟨2, at_, 0, [], ⟨op, 0, 0, 0, 0⟩, tok0⟩) _
  have P2 := Lib.hid (hP.alloc (.cells #[.int .i64 2, .int .i64 (at_ : Int), .int .i64 0, .string ⟨#[]⟩, .int .i64 op, .int .i64 0, .int .i64 0, .int .i64 0, .int .i64 0, .int .i64 0, .int .i64 0, .int .i64 0, .string ⟨#[]⟩] 69))
  have HNB := Lib.hid (hP.not (Nat.le_refl w.heap.size))
  have hgw : 2 < w.heap.size := hS.1
  have HVB : Hid (∀ g, vp.ownBlock = some g → g < w.heap.size) := fun g hg => (hP.own.lt g hg).2
  have ixk : (0 : Int) ≤ K ∧ (K : Int) < 9 := by omega
  obtain ⟨ix0, ix1⟩ := ixk
  generalize insT op at_ r = Z at *
  rw [hK] at cF
  generalize shapeZ op = sh at *
  clear hP hS hps hF f0 f8 hK hKt
  go_enter Tryd.func91, Tryd.ntmps91
  go_wp2_with fail
  refine (cF _).mono ?_; rintro en w2 ⟨rfl, rfl⟩
  have hsh2 : (w.alloc (.cells #[.int .i64 2, .int .i64 (at_ : Int), .int .i64 0, .string ⟨#[]⟩, .int .i64 op, .int .i64 0, .int .i64 0, .int .i64 0, .int .i64 0, .int .i64 0, .int .i64 0, .int .i64 0, .string ⟨#[]⟩] 69)).cell? ⟨2, K, none⟩ = some (.string (txt sh)) := (World.cell?_alloc_lt _ _ _ hgw).trans hsh
  have hsz2 : (w.alloc (.cells #[.int .i64 2, .int .i64 (at_ : Int), .int .i64 0, .string ⟨#[]⟩, .int .i64 op, .int .i64 0, .int .i64 0, .int .i64 0, .int .i64 0, .int .i64 0, .int .i64 0, .int .i64 0, .string ⟨#[]⟩] 69)).heap.size = w.heap.size + 1 := by simp
  have B2 : Hid (Below w.heap.size w (w.alloc (.cells #[.int .i64 2, .int .i64 (at_ : Int), .int .i64 0, .string ⟨#[]⟩, .int .i64 op, .int .i64 0, .int .i64 0, .int .i64 0, .int .i64 0, .int .i64 0, .int .i64 0, .int .i64 0, .string ⟨#[]⟩] 69))) := (Below.refl _ _).alloc (Nat.le_refl _) _
  generalize (w.alloc (.cells #[.int .i64 2, .int .i64 (at_ : Int), .int .i64 0, .string ⟨#[]⟩, .int .i64 op, .int .i64 0, .int .i64 0, .int .i64 0, .int .i64 0, .int .i64 0, .int .i64 0, .int .i64 0, .string ⟨#[]⟩] 69)) = w2 at *
  clear hsh
  go_wp2_with fail
  go_loopw [] (fun wr => ∃ (k : Nat) (z : PartZ) (r1 : List Tok), Par wr b e r1 vp ps ∧ Box wr w.heap.size (partL z) ∧ wr.heap[w.heap.size + 1]? = some (.stringIter (txt sh) k) ∧ Below b w wr ∧ fieldsT (sh.drop k) z r1 = F ∧ k ≤ sh.length ∧ r1.length ≤ r.length) (fun wr => (txt sh).size - wr.iterPos (w.heap.size + 1))
  case atStart =>
    have hi := World.iter_heap w2 (txt sh) 0
    rw [hsz2] at hi
    have hal : Below w2.heap.size w2 (w2.iter (txt sh) 0) := (Below.refl _ w2).alloc (Nat.le_refl _) _
    exact ⟨0, _, r, P2.out.go hal, X2.out.below hal (by omega), hi, (B2.out.mono (Nat.le_of_lt hlt)).trans (hal.mono (by omega)), HF.out.symm, Nat.zero_le _, Nat.le_refl _⟩
  case round =>
    obtain ⟨k, z, r1, hp, hx, hit, hbw, hn, hk, hl⟩ := hrel
    have HP1 := Lib.hid hp
    have HX1 := Lib.hid hx
    have HIT := Lib.hid hit
    have HBW := Lib.hid hbw
    have HN := Lib.hid hn
    have HL := Lib.hid hl
    have HK := Lib.hid hk
    have hsz : w.heap.size + 1 < wr.heap.size := (Array.getElem?_eq_some_iff.1 hit).1
    have hts := txt_sz sh
    by_cases hlk : k < sh.length
    · obtain ⟨c, hc⟩ : ∃ c, sh[k]? = some c := ⟨_, List.getElem?_eq_getElem hlk⟩
      have hcm : c ∈ sh := List.mem_iff_getElem?.2 ⟨k, hc⟩
      have hco := HSO.out c hcm
      have hc128 : c.toNat < 128 := by rcases hco with rfl | rfl | rfl | rfl | rfl | rfl | rfl | rfl <;> decide
      have hcI : (c.toNat : Int) = 68 ∨ (c.toNat : Int) = 65 ∨ (c.toNat : Int) = 66 ∨ (c.toNat : Int) = 78 ∨ (c.toNat : Int) = 84 ∨ (c.toNat : Int) = 44 ∨ (c.toNat : Int) = 40 ∨ (c.toNat : Int) = 41 := by
        rcases hco with rfl | rfl | rfl | rfl | rfl | rfl | rfl | rfl <;> decide
      have hnx := fun ty => next_rune (P := Tryd.prog) hit (show k < (txt sh).size by rw [hts]; exact hlk) ty
      obtain ⟨q1, q2⟩ := ascii_at hc hc128
      rw [txt_data, q1, q2] at hnx
      have HST := Lib.hid (fieldsT_drop hc z r1)
      have KI : Hid (KeepS (fun j => j = w.heap.size + 1) wr (wr.iterAt (w.heap.size + 1) (txt sh) (k + 1))) := KeepS.of_grown (iterAt_grown _ _ _ _) (fun j hj => by injection hj with hj; exact hj.symm)
      have hit2 := Lib.hid (Lib.iterAt_heap wr (w.heap.size + 1) (txt sh) k (k + 1) hit)
      have hsz2b : (wr.iterAt (w.heap.size + 1) (txt sh) (k + 1)).heap.size = wr.heap.size := Lib.iterAt_size _ _ _ _
      have hpI : Par (wr.iterAt (w.heap.size + 1) (txt sh) (k + 1)) b e r1 vp ps := hp.keepS KI.out (fun j hj => by omega) (fun g hg e => by have := HVB.out g hg; omega)
      have hxI : Box (wr.iterAt (w.heap.size + 1) (txt sh) (k + 1)) w.heap.size (partL z) := hx.keepS KI.out (fun e => by omega)
      have BI := Lib.hid (hbw.trans (KI.out.below (show b ≤ wr.heap.size by omega) (fun j hj => by omega)))
      have hFd := field_any (c.toNat : Int) hcI _ b e r1 vp ps w.heap.size z hpI hxI hlt HNB.out
      have hln := fieldT_len (c.toNat : Int) z r1
      have HLN := Lib.hid hln
      have c0 : (0 : Int) ≤ c.toNat ∧ (c.toNat : Int) ≤ 1114111 := by omega
      generalize (c.toNat : Int) = C at *
      generalize fieldT C z r1 = FT at *
      obtain ⟨ok, z2, r2⟩ := FT
      have HSZ2 := Lib.hid hsz2b
      clear hp hx hit hbw hn hk hl hc hcm hco hc128 hcI q1 q2 hpI hxI hln hsz2b
      cases ok
      · have hz : Hid (Z = (false, r2, [])) := HNO.out z2 r2 (by rw [← HN.out, HST.out]; simp)
        go_wp2_with fail
        refine hFd.mono ?_; rintro en w3 ⟨rfl, hp3, hx3, hk3⟩
        have HP3 := Lib.hid hp3
        have HB3 := Lib.hid (BI.out.trans (hk3.below (by rw [HSZ2.out]; omega) (fun j hj => by omega)))
        clear hp3 hx3 hk3
        go_wp2_with fail
        go_ret
        exact ⟨by rw [hz.out]; rfl, vp, by rw [hz.out]; simpa using HP3.out, HB3.out⟩
      · have hz : Hid (fieldsT (sh.drop (k + 1)) z2 r2 = F) := by show _ = _; rw [← HN.out, HST.out]; simp
        go_wp2_with fail
        refine hFd.mono ?_; rintro en w3 ⟨rfl, hp3, hx3, hk3⟩
        have HP3 := Lib.hid hp3
        have HX3 := Lib.hid hx3
        have HB3 := Lib.hid (BI.out.trans (hk3.below (by rw [HSZ2.out]; omega) (fun j hj => by omega)))
        have hit3 : w3.heap[w.heap.size + 1]? = some (.stringIter (txt sh) (k + 1)) := (hk3.block _ (by rw [HSZ2.out]; exact hsz) (fun e => by omega)).trans hit2.out
        clear hp3 hx3 hk3
        go_wp2_with fail
        go_roundw
        case rel => exact ⟨k + 1, z2, r2, HP3.out, HX3.out, hit3, HB3.out, hz.out, by omega, Nat.le_trans HLN.out HL.out⟩
        case measure =>
          simp only [World.iterPos, hit3, HIT.out]
          omega
    · have hnx := fun ty => next_none (P := Tryd.prog) hit (show ¬ k < (txt sh).size by rw [hts]; exact hlk) ty
      have hz : Hid (Z = (true, r1, [z])) := HYES.out z r1 (by
        rw [← HN.out, List.drop_eq_nil_of_le (by omega)]; rfl)
      have HZ := hz
      have HX3 := HX1
      have HP3 : Hid (Par wr.drew b e r1 vp ps) := hp.drewN 1
      have HBX := HBW
      have hbxb : b ≠ w.heap.size := by omega
      have hps0 : ps.length ≤ 1000000 := by have := HPS.out; omega
      have HPS := Lib.hid hps0
      clear hp hx hit hbw hn hk hl hps0 HN
      go_wp2_with fail
      refine wp_region_tree (fun a x => _) (LinT.of [(0, true), (1, true), (2, true), (3, true), (5, true)] (.two 4 6 (LinT.of [(6, false), (7, false), (8, true), (9, true), (10, false)] .nil) (LinT.of [(4, false), (7, false), (8, true), (9, true), (10, false)] .nil))) (by kernel_rfl) (by kernel_rfl) rfl (by kernel_rfl) (fun x => Box x w.heap.size (partL z)) (fun _ _ h => h) ?_
      simp only [LinT.of, LinT.look, List.getElem?_toArray, List.getElem?_cons_succ, List.getElem?_cons_zero]
      have hS0 : Box wr.drew w.heap.size (partL z) := HX3.out.drew
      iterate 4 (refine tree_take (v := ?_) hS0 (by rfl) ?_ ?_; rotate_left; (intro x hx; go_simp; try (with_reducible rfl)); (simp only [Act.put, List.setIfInBounds_toArray, List.set_cons_zero, List.set_cons_succ]))
      refine tree_get_box hS0 (by rfl) 69 (.tmp 7) rfl w.heap.size 0 rfl (partL z) [.int .i64 z.kind, .int .i64 (z.at_ : Int), .int .i64 z.num, .string (txt z.name), .int .i64 z.ins.op, .int .i64 z.ins.d, .int .i64 z.ins.a, .int .i64 z.ins.b, .int .i64 z.ins.imm, .int .i64 z.target.kind, .int .i64 z.target.num, .int .i64 (z.target.at_ : Int), .string (txt z.target.text)] (fun y hy => hy) (fun j v hj => by rw [Nat.zero_add]; exact hj) _ Tryd.underlying69 rfl 13 size_part rfl ?_
      simp only [Act.put, List.setIfInBounds_toArray, List.set_cons_zero, List.set_cons_succ]
      obtain ⟨i0, hi, hz0, hz1, hz2⟩ := info_parts info_part
      have HI := Lib.hid hi
      have HZ0 := Lib.hid hz0
      have HZ1 := Lib.hid hz1
      have HZ2 := Lib.hid hz2
      clear hi hz0 hz1 hz2
      have c3 := HP3.out.parts
      have hbl := HP3.out.lt
      have HLT := Lib.hid hbl
      have hbl2 : b < wr.heap.size := hbl
      have hps := HPS.out
      have END : ∀ (o : Obj) (y3 : World) (v3 : Value), (wr.drew.alloc o).grownBy y3 vp.ownBlock → y3.ownsRow (b + 1) 69 13 v3 (ps.length + 1) (partsL ps ++ partL z) →
          (Par (y3.setCell ⟨b, 3, none⟩ v3) b e r1 v3 (ps ++ [z]) ∧ Below b w (y3.setCell ⟨b, 3, none⟩ v3)) ∧ Box y3 w.heap.size (partL z) ∧ y3.cell? ⟨b, 3, none⟩ = some vp ∧ y3.frozen? ⟨b, 3, none⟩ = false ∧ b < y3.heap.size ∧ ∃ A3 k3, v3 = .slice A3 (ps.length + 1) k3 := by
        intro o y3 v3 hg ho
        have hne : some b ≠ vp.ownBlock := fun e => by have := (HP3.out.own.lt b e.symm).1; omega
        obtain ⟨q1, q2⟩ := HP3.out.app hg ho rfl
        obtain ⟨A3, k3, h3⟩ := (Row.of_own ho).form
        have hb2 := ((HP3.out.alloc o).go (Below.refl _ _))
        refine ⟨⟨q1, HBX.out.trans ((Below.refl b wr).drew.trans q2)⟩, (HX3.out.drew.alloc o).grown hg (fun e => HNB.out e.symm), hg.cell (hb2.parts) hne, ?_, ?_, A3, k3, h3⟩
        · rw [World.frozen?_of_block (w := wr.drew.alloc o) (hg.block b hb2.lt hne)]; exact hb2.frozen 3
        · have := hg.size; have := hb2.lt; omega
      have HEND := Lib.hid END
      clear END
      refine tree_two hS0 (by rfl) (by rfl) (fun K hK => ?_) (fun K hK => ?_)
      · go_simp
        refine hK.out _ _ hS0 (fun _ => ?_)
        clear hK K
        try (simp only [Act.put, List.setIfInBounds_toArray, List.set_cons_zero, List.set_cons_succ])
        refine tree_call hS0 (by rfl) (fun K hK => ?_)
        go_simp
        have hSa : Box (wr.drew.alloc (.cells #[.int .i64 z.kind, .int .i64 (z.at_ : Int), .int .i64 z.num, .string (txt z.name), .int .i64 z.ins.op, .int .i64 z.ins.d, .int .i64 z.ins.a, .int .i64 z.ins.b, .int .i64 z.ins.imm, .int .i64 z.target.kind, .int .i64 z.target.num, .int .i64 (z.target.at_ : Int), .string (txt z.target.text)] 69)) w.heap.size (partL z) := hS0.alloc _
        refine hK.out _ _ hSa (fun _ => ?_)
        clear hK K
        try (simp only [Act.put, List.setIfInBounds_toArray, List.set_cons_zero, List.set_cons_succ])
        refine tree_call hSa (by rfl) (fun K hK => ?_)
        refine wp_append_row _ (.tmp 30) (.tmp 32) 58 rfl (b + 1) 69 i0 _ 13 120 Tryd.underlying58 HI.out HZ0.out HZ1.out HZ2.out rfl (by omega) _ ps.length (partsL ps) rfl (HP3.out.own.alloc _) _ (.slice (some ⟨wr.heap.size, 0, none⟩) 1 1) 1 (partL z) rfl (row_part wr.drew z _) (partL_cell _) (by unfold maxLen; omega) (by omega) (by simp; omega) ?_
        intro v3 y3 hO3 hg3
        obtain ⟨PA, hS3, q3, q4, hy3, A3, k3, rfl⟩ := HEND.out _ _ _ hg3 hO3
        have HPA := Lib.hid PA
        clear hO3 hg3 PA
        refine hK.out _ _ hS3 (fun _ => ?_)
        clear hK K
        try (simp only [Act.put, List.setIfInBounds_toArray, List.set_cons_zero, List.set_cons_succ])
        iterate 2 (refine tree_take (v := ?_) hS3 (by rfl) ?_ ?_; rotate_left; (intro x hx; go_simp; try (with_reducible rfl)); (simp only [Act.put, List.setIfInBounds_toArray, List.set_cons_zero, List.set_cons_succ]))
        refine tree_call hS3 (by rfl) (fun K hK => ?_)
        go_simp
        refine hK.out _ _ (hS3.setCell_other hbxb.symm 3 _) (fun _ => ?_)
        clear hK K
        refine tree_done ?_
        try (simp only [Act.put, List.setIfInBounds_toArray, List.set_cons_zero, List.set_cons_succ])
        go_wp2_with fail
        go_ret
        exact ⟨by rw [HZ.out]; rfl, _, by rw [HZ.out]; exact HPA.out.1, HPA.out.2⟩
      · go_simp
        have hSa : Box (wr.drew.alloc (.cells #[.int .i64 z.kind, .int .i64 (z.at_ : Int), .int .i64 z.num, .string (txt z.name), .int .i64 z.ins.op, .int .i64 z.ins.d, .int .i64 z.ins.a, .int .i64 z.ins.b, .int .i64 z.ins.imm, .int .i64 z.target.kind, .int .i64 z.target.num, .int .i64 (z.target.at_ : Int), .string (txt z.target.text)] 69)) w.heap.size (partL z) := hS0.alloc _
        have c3a : (wr.drew.alloc (.cells #[.int .i64 z.kind, .int .i64 (z.at_ : Int), .int .i64 z.num, .string (txt z.name), .int .i64 z.ins.op, .int .i64 z.ins.d, .int .i64 z.ins.a, .int .i64 z.ins.b, .int .i64 z.ins.imm, .int .i64 z.target.kind, .int .i64 z.target.num, .int .i64 (z.target.at_ : Int), .string (txt z.target.text)] 69)).cell? ⟨b, 3, none⟩ = some vp := (World.cell?_alloc_lt _ _ _ hbl).trans c3
        have c3b := (show (wr.alloc (.cells #[.int .i64 z.kind, .int .i64 (z.at_ : Int), .int .i64 z.num, .string (txt z.name), .int .i64 z.ins.op, .int .i64 z.ins.d, .int .i64 z.ins.a, .int .i64 z.ins.b, .int .i64 z.ins.imm, .int .i64 z.target.kind, .int .i64 z.target.num, .int .i64 (z.target.at_ : Int), .string (txt z.target.text)] 69)).cell? ⟨b, 3, none⟩ = some vp from c3a)
        refine hK.out _ _ hSa (fun _ => ?_)
        clear hK K
        try (simp only [Act.put, List.setIfInBounds_toArray, List.set_cons_zero, List.set_cons_succ])
        refine tree_call hSa (by rfl) (fun K hK => ?_)
        go_simp
        refine hK.out _ _ hSa (fun _ => ?_)
        clear hK K
        try (simp only [Act.put, List.setIfInBounds_toArray, List.set_cons_zero, List.set_cons_succ])
        refine tree_call hSa (by rfl) (fun K hK => ?_)
        refine wp_append_row _ (.tmp 30) (.tmp 32) 58 rfl (b + 1) 69 i0 _ 13 120 Tryd.underlying58 HI.out HZ0.out HZ1.out HZ2.out rfl (by omega) _ ps.length (partsL ps) rfl (HP3.out.own.alloc _) _ (.slice (some ⟨wr.heap.size, 0, none⟩) 1 1) 1 (partL z) rfl (row_part wr.drew z _) (partL_cell _) (by unfold maxLen; omega) (by omega) (by simp; omega) ?_
        intro v3 y3 hO3 hg3
        obtain ⟨PA, hS3, q3, q4, hy3, A3, k3, rfl⟩ := HEND.out _ _ _ hg3 hO3
        have HPA := Lib.hid PA
        clear hO3 hg3 PA
        refine hK.out _ _ hS3 (fun _ => ?_)
        clear hK K
        try (simp only [Act.put, List.setIfInBounds_toArray, List.set_cons_zero, List.set_cons_succ])
        iterate 2 (refine tree_take (v := ?_) hS3 (by rfl) ?_ ?_; rotate_left; (intro x hx; go_simp; try (with_reducible rfl)); (simp only [Act.put, List.setIfInBounds_toArray, List.set_cons_zero, List.set_cons_succ]))
        refine tree_call hS3 (by rfl) (fun K hK => ?_)
        go_simp
        refine hK.out _ _ (hS3.setCell_other hbxb.symm 3 _) (fun _ => ?_)
        clear hK K
        refine tree_done ?_
        try (simp only [Act.put, List.setIfInBounds_toArray, List.set_cons_zero, List.set_cons_succ])
        go_wp2_with fail
        go_ret
        exact ⟨by rw [HZ.out]; rfl, _, by rw [HZ.out]; exact HPA.out.1, HPA.out.2⟩
end Go.Proofs.YtfdegdbknponkaaDoor.Words

/- Contract of package asm's label. -/
namespace Go.Proofs.YtfdegdbknponkaaDoor.Words
set_option maxRecDepth 100000
open Go.RowKit Go.Shelf Go.Lib
set_option linter.unusedVariables false
set_option linter.unusedSimpArgs false

/-- What label does to a parser. -/
def labT (r : List Tok) : Bool × List Tok × List PartZ := match labelT r with | some (p, ts) => (true, ts, [p]) | none => (false, r, [])
theorem labT_two (t c : Tok) (ts : List Tok) : labT (t :: c :: ts) = if t.kind = 1 ∧ isS c [58] = true then (true, ts, [⟨1, t.at_, 0, t.text, ins0, tok0⟩]) else (false, t :: c :: ts, []) := by
  have h : labelT (t :: c :: ts) = if t.kind = 1 ∧ isS c [58] = true then some (⟨1, t.at_, 0, t.text, ins0, tok0⟩, ts) else none := rfl
  unfold labT
  rw [h]
  by_cases hh : t.kind = 1 ∧ isS c [58] = true
  · rw [if_pos hh, if_pos hh]
  · rw [if_neg hh, if_neg hh]
theorem labT_kind {r : List Tok} (e : Nat) (h : (nextT r e).kind ≠ 1) : labT r = (false, r, []) := by
  rcases r with _ | ⟨t, _ | ⟨c, ts⟩⟩
  · rfl
  · rfl
  · rw [labT_two, if_neg (fun e => h e.1)]
theorem labT_one (t : Tok) : labT [t] = (false, [t], []) := rfl
theorem labT_len (r : List Tok) : (labT r).2.2.length + (labT r).2.1.length ≤ r.length := by
  rcases r with _ | ⟨t, _ | ⟨c, ts⟩⟩
  · exact Nat.le_refl _
  · exact Nat.le_refl _
  · rw [labT_two]
    split
    · simp; omega
    · simp
/-- A row without its first two. -/
theorem Row.behind2 {w : World} {B c : Nat} {b off : Nat} {i j : Tok} {l : List Tok} (h : Row w B 4 (.slice (some ⟨b, off, none⟩) (l.length + 1 + 1) c) (l.length + 1 + 1) (toksL (i :: j :: l))) :
    Row w B 4 (.slice (some ⟨b, if c = 2 then off else off + 8, none⟩) l.length (c - 2)) l.length (toksL l) := by
  obtain ⟨b', o', he, hb, hc⟩ := h.at_ (by omega)
  obtain ⟨h1, h2⟩ := h.cap
  injection he with he
  injection he with he1 he2
  subst he1; subst he2
  refine ⟨toksL_length l, _, _, rfl, by omega, by omega, (fun h => by cases h), fun _ => ⟨b, _, rfl, hb, fun k u hu => ?_⟩⟩
  have hj : k < (toksL l).length := (List.getElem?_eq_some_iff.1 hu).1
  rw [toksL_length] at hj
  rw [if_neg (by omega)]
  have := hc (8 + k) u (by rw [toksL_cons, toksL_cons, ← List.append_assoc, List.getElem?_append_right (by simp [tokL])]; simpa [tokL] using hu)
  rwa [show off + 8 + k = off + (8 + k) by omega]

set_option maxHeartbeats 4000000 in
theorem label_no (w : World) (b e : Nat) (r : List Tok) (vp : Value) (ps : List PartZ) (hP : Par w b e r vp ps) (h : (nextT r e).kind ≠ 1) :
    Calls Tryd.prog 69 #[.pointer (some ⟨b, 0, none⟩)] w (AppOut w b e ps (labT r)) := by
  have HP := Lib.hid hP
  have hlt := hP.lt
  have hN := next_any w b e r vp ps hP
  have HZ := Lib.hid (labT_kind e h)
  generalize nextT r e = t at *
  have h3 : (t.kind != 1) = true := by simpa using h
  clear hP h
  go_enter Tryd.func69, Tryd.ntmps69
  go_wp2_with fail
  refine hN.mono ?_; rintro en w1 ⟨rfl, hb1⟩
  have HB1 := Lib.hid hb1
  clear hb1
  go_wp2_with fail
  go_ret
  have hB := HB1.out.alloc HB1.out.size (.cells #[.int .i64 t.kind, .int .i64 t.num, .int .i64 (t.at_ : Int), .string (txt t.text)] 62)
  exact ⟨by rw [HZ.out]; rfl, vp, by rw [HZ.out]; simpa using HP.out.go hB, hB.mono (Nat.le_of_lt hlt)⟩
set_option maxHeartbeats 4000000 in
theorem label_short (w : World) (b e : Nat) (t : Tok) (vp : Value) (ps : List PartZ) (hP : Par w b e [t] vp ps) (h : t.kind = 1) :
    Calls Tryd.prog 69 #[.pointer (some ⟨b, 0, none⟩)] w (AppOut w b e ps (labT [t])) := by
  have HP := Lib.hid hP
  have hlt := hP.lt
  have hN := next_any w b e [t] vp ps hP
  change Calls _ _ _ _ (fun en w' => en = .returned (tokV t) ∧ _) at hN
  have HZ := Lib.hid (labT_one t)
  obtain ⟨vt, vn, hbox, ht, hn, hp, htk⟩ := hP
  obtain ⟨A, c, rfl⟩ := ht.form
  have z0 := hbox.cell (k := 0) rfl
  simp only [List.length_cons, List.length_nil, Nat.zero_add] at z0
  have h3 : (t.kind != 1) = false := by simp [h]
  clear hbox ht hn hp htk h
  go_enter Tryd.func69, Tryd.ntmps69
  go_wp2_with fail
  refine hN.mono ?_; rintro en w1 ⟨rfl, hb1⟩
  have HB1 := Lib.hid hb1
  have z1 : (w1.alloc (.cells #[.int .i64 t.kind, .int .i64 t.num, .int .i64 (t.at_ : Int), .string (txt t.text)] 62)).cell? ⟨b, 0, none⟩ = some (.slice A 1 c) := one_cell (Nat.lt_of_lt_of_le hlt hb1.size) (below_cell hb1 hlt z0)
  clear hb1 z0
  go_wp2_with fail
  go_ret
  have hB := HB1.out.alloc HB1.out.size (.cells #[.int .i64 t.kind, .int .i64 t.num, .int .i64 (t.at_ : Int), .string (txt t.text)] 62)
  exact ⟨by rw [HZ.out]; rfl, vp, by rw [HZ.out]; simpa using HP.out.go hB, hB.mono (Nat.le_of_lt hlt)⟩
set_option maxHeartbeats 4000000 in
theorem label_nosign (w : World) (b e : Nat) (t c : Tok) (ts : List Tok) (vp : Value) (ps : List PartZ) (hP : Par w b e (t :: c :: ts) vp ps) (h : t.kind = 1) (hs : isS c [58] = false) :
    Calls Tryd.prog 69 #[.pointer (some ⟨b, 0, none⟩)] w (AppOut w b e ps (labT (t :: c :: ts))) := by
  have HP := Lib.hid hP
  have hlt := hP.lt
  have hN := next_any w b e (t :: c :: ts) vp ps hP
  change Calls _ _ _ _ (fun en w' => en = .returned (tokV t) ∧ _) at hN
  have HVB : Hid (∀ g, vp.ownBlock = some g → g < w.heap.size) := fun g hg => (hP.own.lt g hg).2
  obtain ⟨vt, vn, hbox, ht, hn, hp, htk⟩ := hP
  obtain ⟨A, cc, rfl⟩ := ht.form
  obtain ⟨g, off, rfl, hg, _⟩ := ht.at_ (by simp)
  have hcap := ht.cap
  have z0 := hbox.cell (k := 0) rfl
  have f0 := hbox.frozen 0
  obtain ⟨c0, c1, c2, c3⟩ := ht.tok (k := 1) (i := c) rfl
  simp only [Nat.one_mul, Nat.add_assoc, Nat.reduceAdd] at c0 c1 c2 c3
  simp only [List.length_cons] at hcap z0
  have HBX0 := Lib.hid hbox
  have HR := Lib.hid (show Row w b 4 (.slice (some ⟨g, off, none⟩) (ts.length + 1 + 1) cc) (ts.length + 1 + 1) (toksL (t :: c :: ts)) from ht)
  have HNM := Lib.hid hn
  have HPP := Lib.hid hp
  have HTK := Lib.hid htk
  have h3 : (t.kind != 1) = false := by simp [h]
  have l2 : decide ((ts.length : Int) + 1 + 1 < 2) = false := decide_eq_false (by omega)
  have l3 : decide ((ts.length : Int) + 2 < 2) = false := decide_eq_false (by omega)
  have l4 : decide (((ts.length + 1 + 1 : Nat) : Int) < 2) = false := decide_eq_false (by omega)
  have hgw : g < w.heap.size := by omega
  have HH := Lib.hid h
  clear hbox ht hn hp htk h
  go_enter Tryd.func69, Tryd.ntmps69
  go_wp2_with fail
  refine hN.mono ?_; rintro en w1 ⟨rfl, hb1⟩
  have HB1 := Lib.hid hb1
  have hlt1 := Nat.lt_of_lt_of_le hlt hb1.size
  have hgw1 : g < w1.heap.size := Nat.lt_of_lt_of_le hgw hb1.size
  have z1 : w1.cell? ⟨b, 0, none⟩ = _ := below_cell hb1 hlt z0
  have f1 : w1.frozen? ⟨b, 0, none⟩ = false := below_frozen hb1 hlt f0
  have d0 := below_cell hb1 hgw c0
  have d1 := below_cell hb1 hgw c1
  have d2 := below_cell hb1 hgw c2
  have d3 := below_cell hb1 hgw c3
  clear hb1 z0 f0 c0 c1 c2 c3
  go_wp2_with fail
  refine (tokSign_any c [58] _).mono ?_; rintro en w2 ⟨rfl, hb2⟩
  have hB := (HB1.out.alloc HB1.out.size (.cells #[.int .i64 t.kind, .int .i64 t.num, .int .i64 (t.at_ : Int), .string (txt t.text)] 62))
  have HB := Lib.hid (hB.trans (hb2.mono hB.size))
  have HZ : Hid (labT (t :: c :: ts) = (false, t :: c :: ts, [])) := by show _ = _; rw [labT_two, if_neg (fun e => by rw [e.2] at hs; cases hs)]
  rw [hs]
  clear hb2 hB hs
  go_wp2_with fail
  go_ret
  exact ⟨by rw [HZ.out]; rfl, vp, by rw [HZ.out]; simpa using HP.out.go HB.out, HB.out.mono (Nat.le_of_lt hlt)⟩
set_option maxHeartbeats 4000000 in
theorem label_yes (w : World) (b e : Nat) (t c : Tok) (ts : List Tok) (vp : Value) (ps : List PartZ) (hP : Par w b e (t :: c :: ts) vp ps) (h : t.kind = 1) (hps : ps.length ≤ 1000000) (hs : isS c [58] = true) :
    Calls Tryd.prog 69 #[.pointer (some ⟨b, 0, none⟩)] w (AppOut w b e ps (labT (t :: c :: ts))) := by
  have HP := Lib.hid hP
  have hlt := hP.lt
  have hN := next_any w b e (t :: c :: ts) vp ps hP
  change Calls _ _ _ _ (fun en w' => en = .returned (tokV t) ∧ _) at hN
  have HVB : Hid (∀ g, vp.ownBlock = some g → g < w.heap.size) := fun g hg => (hP.own.lt g hg).2
  obtain ⟨vt, vn, hbox, ht, hn, hp, htk⟩ := hP
  obtain ⟨A, cc, rfl⟩ := ht.form
  obtain ⟨g, off, rfl, hg, _⟩ := ht.at_ (by simp)
  have hcap := ht.cap
  have z0 := hbox.cell (k := 0) rfl
  have f0 := hbox.frozen 0
  obtain ⟨c0, c1, c2, c3⟩ := ht.tok (k := 1) (i := c) rfl
  simp only [Nat.one_mul, Nat.add_assoc, Nat.reduceAdd] at c0 c1 c2 c3
  simp only [List.length_cons] at hcap z0
  have HBX0 := Lib.hid hbox
  have HR := Lib.hid (show Row w b 4 (.slice (some ⟨g, off, none⟩) (ts.length + 1 + 1) cc) (ts.length + 1 + 1) (toksL (t :: c :: ts)) from ht)
  have HNM := Lib.hid hn
  have HPP := Lib.hid hp
  have HTK := Lib.hid htk
  have h3 : (t.kind != 1) = false := by simp [h]
  have l2 : decide ((ts.length : Int) + 1 + 1 < 2) = false := decide_eq_false (by omega)
  have l3 : decide ((ts.length : Int) + 2 < 2) = false := decide_eq_false (by omega)
  have l4 : decide (((ts.length + 1 + 1 : Nat) : Int) < 2) = false := decide_eq_false (by omega)
  have hgw : g < w.heap.size := by omega
  have HH := Lib.hid h
  have HPS := Lib.hid hps
  clear hbox ht hn hp htk h hps
  go_enter Tryd.func69, Tryd.ntmps69
  go_wp2_with fail
  refine hN.mono ?_; rintro en w1 ⟨rfl, hb1⟩
  have HB1 := Lib.hid hb1
  have hlt1 := Nat.lt_of_lt_of_le hlt hb1.size
  have hgw1 : g < w1.heap.size := Nat.lt_of_lt_of_le hgw hb1.size
  have z1 : w1.cell? ⟨b, 0, none⟩ = _ := below_cell hb1 hlt z0
  have f1 : w1.frozen? ⟨b, 0, none⟩ = false := below_frozen hb1 hlt f0
  have d0 := below_cell hb1 hgw c0
  have d1 := below_cell hb1 hgw c1
  have d2 := below_cell hb1 hgw c2
  have d3 := below_cell hb1 hgw c3
  clear hb1 z0 f0 c0 c1 c2 c3
  go_wp2_with fail
  refine (tokSign_any c [58] _).mono ?_; rintro en w2 ⟨rfl, hb2⟩
  have HZ : Hid (labT (t :: c :: ts) = (true, ts, [⟨1, t.at_, 0, t.text, ins0, tok0⟩])) := by show _ = _; rw [labT_two, if_pos ⟨HH.out, hs⟩]
  rw [hs]
  have hA1 : (w1.alloc (.cells #[.int .i64 t.kind, .int .i64 t.num, .int .i64 (t.at_ : Int), .string (txt t.text)] 62)).heap.size = w1.heap.size + 1 := by simp
  have hs2 : w1.heap.size + 1 ≤ w2.heap.size := by have := hb2.size; omega
  have TK2 : Hid (w2.cell? ⟨w1.heap.size, 2, none⟩ = some (.int .i64 (t.at_ : Int))) := below_cell hb2 (by omega) (by go_simp)
  have TK3 : Hid (w2.cell? ⟨w1.heap.size, 3, none⟩ = some (.string (txt t.text))) := below_cell hb2 (by omega) (by go_simp)
  have hB := (HB1.out.alloc HB1.out.size (.cells #[.int .i64 t.kind, .int .i64 t.num, .int .i64 (t.at_ : Int), .string (txt t.text)] 62))
  have HB := Lib.hid (hB.trans (hb2.mono hB.size))
  have z2 : w2.cell? ⟨b, 0, none⟩ = some (.slice (some ⟨g, off, none⟩) (ts.length + 1 + 1) cc) := below_cell HB.out hlt (HBX0.out.cell (k := 0) rfl)
  have f2 : w2.frozen? ⟨b, 0, none⟩ = false := below_frozen HB.out hlt (HBX0.out.frozen 0)
  have hblt2 : b < w2.heap.size := by omega
  have m2 : (2 : Int) ≤ (ts.length : Int) + 1 + 1 := by omega
  have m3 : (ts.length : Int) + 1 + 1 ≤ cc := by omega
  clear hb2 hB hs z1 f1 d0 d1 d2 d3
  by_cases hc2 : cc = 2
  · have hts : ts = [] := List.eq_nil_of_length_eq_zero (by omega)
    subst hc2
    subst hts
    have HR2 : Hid (Row w b 4 (.slice (some ⟨g, off, none⟩) 0 0) 0 (toksL [])) := HR.out.behind2
    have hX := (Below.refl b w2).setCell (p := ⟨b, 0, none⟩) (Nat.le_refl _) (.slice (some ⟨g, off, none⟩) 0 0)
    have hBb : Below b w (w2.setCell ⟨b, 0, none⟩ (.slice (some ⟨g, off, none⟩) 0 0)) := (HB.out.mono (Nat.le_of_lt hlt)).trans hX
    have hKS : KeepS (fun j => j = b) w2 (w2.setCell ⟨b, 0, none⟩ (.slice (some ⟨g, off, none⟩) 0 0)) := (KeepS.refl (fun j => j = b) w2).setCell rfl _ _
    have hKS2 : KeepS (fun j => j = b) w (w2.setCell ⟨b, 0, none⟩ (.slice (some ⟨g, off, none⟩) 0 0)) := (KeepS.of_below HB.out).trans hKS
    have hPX : Par (w2.setCell ⟨b, 0, none⟩ (.slice (some ⟨g, off, none⟩) 0 0)) b e [] vp ps := ⟨_, vn, (HBX0.out.below HB.out hlt).setCell 0 _, HR2.out.below hBb, HNM.out.below hBb, own_keepS HPP.out hKS2 (fun g hg e => by have := (HPP.out.lt g hg).1; omega), fun x hx => HTK.out x (List.mem_cons_of_mem _ (List.mem_cons_of_mem _ hx))⟩
    have HT2 : Hid ((w2.setCell ⟨b, 0, none⟩ (.slice (some ⟨g, off, none⟩) 0 0)).drew.cell? ⟨w1.heap.size, 2, none⟩ = some (.int .i64 (t.at_ : Int))) := hKS.cell (by omega) (fun e => by omega) TK2.out
    have HT3 : Hid ((w2.setCell ⟨b, 0, none⟩ (.slice (some ⟨g, off, none⟩) 0 0)).drew.cell? ⟨w1.heap.size, 3, none⟩ = some (.string (txt t.text))) := hKS.cell (by omega) (fun e => by omega) TK3.out
    have HTL : Hid (w1.heap.size < (w2.setCell ⟨b, 0, none⟩ (.slice (some ⟨g, off, none⟩) 0 0)).drew.heap.size) := by show _ < (w2.setCell ⟨b, 0, none⟩ (.slice (some ⟨g, off, none⟩) 0 0)).heap.size; simp [World.setCell]; omega
    have HP3 : Hid (Par (w2.setCell ⟨b, 0, none⟩ (.slice (some ⟨g, off, none⟩) 0 0)).drew b e [] vp ps) := hPX.drewN 1
    have HBX := Lib.hid hBb
    have HNB : Hid (vp.ownBlock ≠ some w1.heap.size) := fun e => by have := HVB.out _ e; have := HB1.out.size; omega
    have hbxb : b ≠ w1.heap.size := by omega
    clear hX hBb hKS hKS2 hPX
    go_wp2_with fail
    generalize w2.setCell ⟨b, 0, none⟩ (.slice (some ⟨g, off, none⟩) 0 0) = X at *
    refine wp_region_tree (fun a x => _) (LinT.of [(0, true), (1, true), (2, true), (3, true), (5, true), (6, true), (7, true), (8, true), (9, true)] (.two 4 10 (LinT.of [(10, false), (11, false), (12, true), (13, true), (14, false)] .nil) (LinT.of [(4, false), (11, false), (12, true), (13, true), (14, false)] .nil))) (by kernel_rfl) (by kernel_rfl) rfl (by kernel_rfl) (fun x => x.cell? ⟨w1.heap.size, 2, none⟩ = some (.int .i64 (t.at_ : Int)) ∧ x.cell? ⟨w1.heap.size, 3, none⟩ = some (.string (txt t.text))) (fun _ _ h => h) ?_
    simp only [LinT.of, LinT.look, List.getElem?_toArray, List.getElem?_cons_succ, List.getElem?_cons_zero]
    have hS0 : X.drew.cell? ⟨w1.heap.size, 2, none⟩ = some (.int .i64 (t.at_ : Int)) ∧ X.drew.cell? ⟨w1.heap.size, 3, none⟩ = some (.string (txt t.text)) := ⟨HT2.out, HT3.out⟩
    iterate 9 (refine tree_take (v := ?_) hS0 (by rfl) ?_ ?_; rotate_left; (intro x hx; obtain ⟨x2, x3⟩ := hx; go_simp; try (with_reducible rfl)); (simp only [Act.put, List.setIfInBounds_toArray, List.set_cons_zero, List.set_cons_succ]))
    obtain ⟨i0, hi, hz0, hz1, hz2⟩ := info_parts info_part
    have HI := Lib.hid hi
    have HZ0 := Lib.hid hz0
    have HZ1 := Lib.hid hz1
    have HZ2 := Lib.hid hz2
    clear hi hz0 hz1 hz2
    have c3 := HP3.out.parts
    have hbl := HP3.out.lt
    have HLT := Lib.hid hbl
    have hbl2 : b < X.heap.size := hbl
    have hps := HPS.out
    have END : ∀ (o : Obj) (y3 : World) (v3 : Value), (X.drew.alloc o).grownBy y3 vp.ownBlock → y3.ownsRow (b + 1) 69 13 v3 (ps.length + 1) (partsL ps ++ partL (⟨1, t.at_, 0, t.text, ins0, tok0⟩ : PartZ)) →
        (Par (y3.setCell ⟨b, 3, none⟩ v3) b e [] v3 (ps ++ [(⟨1, t.at_, 0, t.text, ins0, tok0⟩ : PartZ)]) ∧ Below b w (y3.setCell ⟨b, 3, none⟩ v3)) ∧ (y3.cell? ⟨w1.heap.size, 2, none⟩ = some (.int .i64 (t.at_ : Int)) ∧ y3.cell? ⟨w1.heap.size, 3, none⟩ = some (.string (txt t.text))) ∧ y3.cell? ⟨b, 3, none⟩ = some vp ∧ y3.frozen? ⟨b, 3, none⟩ = false ∧ b < y3.heap.size ∧ ∃ A3 k3, v3 = .slice A3 (ps.length + 1) k3 := by
      intro o y3 v3 hg ho
      have hne : some b ≠ vp.ownBlock := fun e => by have := (HP3.out.own.lt b e.symm).1; omega
      obtain ⟨q1, q2⟩ := HP3.out.app hg ho rfl
      obtain ⟨A3, k3, h3⟩ := (Row.of_own ho).form
      have hb2 := ((HP3.out.alloc o).go (Below.refl _ _))
      refine ⟨⟨q1, HBX.out.trans ((Below.refl b X).drew.trans q2)⟩, ⟨hg.cell ((World.cell?_alloc_lt _ _ _ HTL.out).trans HT2.out) (fun e => HNB.out e.symm), hg.cell ((World.cell?_alloc_lt _ _ _ HTL.out).trans HT3.out) (fun e => HNB.out e.symm)⟩, hg.cell (hb2.parts) hne, ?_, ?_, A3, k3, h3⟩
      · rw [World.frozen?_of_block (w := X.drew.alloc o) (hg.block b hb2.lt hne)]; exact hb2.frozen 3
      · have := hg.size; have := hb2.lt; omega
    have HEND := Lib.hid END
    clear END
    refine tree_two hS0 (by rfl) (by rfl) (fun K hK => ?_) (fun K hK => ?_)
    · go_simp
      refine hK.out _ _ hS0 (fun _ => ?_)
      clear hK K
      try (simp only [Act.put, List.setIfInBounds_toArray, List.set_cons_zero, List.set_cons_succ])
      refine tree_call hS0 (by rfl) (fun K hK => ?_)
      go_simp
      have hSa : (X.drew.alloc (.cells #[.int .i64 1, .int .i64 (t.at_ : Int), .int .i64 0, .string (txt t.text), .int .i64 0, .int .i64 0, .int .i64 0, .int .i64 0, .int .i64 0, .int .i64 0, .int .i64 0, .int .i64 0, .string ⟨#[]⟩] 69)).cell? ⟨w1.heap.size, 2, none⟩ = some (.int .i64 (t.at_ : Int)) ∧ (X.drew.alloc (.cells #[.int .i64 1, .int .i64 (t.at_ : Int), .int .i64 0, .string (txt t.text), .int .i64 0, .int .i64 0, .int .i64 0, .int .i64 0, .int .i64 0, .int .i64 0, .int .i64 0, .int .i64 0, .string ⟨#[]⟩] 69)).cell? ⟨w1.heap.size, 3, none⟩ = some (.string (txt t.text)) := ⟨(World.cell?_alloc_lt _ _ _ HTL.out).trans hS0.1, (World.cell?_alloc_lt _ _ _ HTL.out).trans hS0.2⟩
      refine hK.out _ _ hSa (fun _ => ?_)
      clear hK K
      try (simp only [Act.put, List.setIfInBounds_toArray, List.set_cons_zero, List.set_cons_succ])
      refine tree_call hSa (by rfl) (fun K hK => ?_)
      refine wp_append_row _ (.tmp 39) (.tmp 45) 58 rfl (b + 1) 69 i0 _ 13 120 Tryd.underlying58 HI.out HZ0.out HZ1.out HZ2.out rfl (by omega) _ ps.length (partsL ps) rfl (HP3.out.own.alloc _) _ (.slice (some ⟨X.heap.size, 0, none⟩) 1 1) 1 (partL (⟨1, t.at_, 0, t.text, ins0, tok0⟩ : PartZ)) rfl (row_part X.drew (⟨1, t.at_, 0, t.text, ins0, tok0⟩ : PartZ) _) (partL_cell _) (by unfold maxLen; omega) (by omega) (by simp; omega) ?_
      intro v3 y3 hO3 hg3
      obtain ⟨PA, hS3, q3, q4, hy3, A3, k3, rfl⟩ := HEND.out _ _ _ hg3 hO3
      have HPA := Lib.hid PA
      clear hO3 hg3 PA
      refine hK.out _ _ hS3 (fun _ => ?_)
      clear hK K
      try (simp only [Act.put, List.setIfInBounds_toArray, List.set_cons_zero, List.set_cons_succ])
      iterate 2 (refine tree_take (v := ?_) hS3 (by rfl) ?_ ?_; rotate_left; (intro x hx; obtain ⟨x2, x3⟩ := hx; go_simp; try (with_reducible rfl)); (simp only [Act.put, List.setIfInBounds_toArray, List.set_cons_zero, List.set_cons_succ]))
      refine tree_call hS3 (by rfl) (fun K hK => ?_)
      go_simp
      refine hK.out _ _ ⟨(World.cell?_setCell_other _ _ _ _ (fun e => hbxb (congrArg Addr.block e))).trans hS3.1, (World.cell?_setCell_other _ _ _ _ (fun e => hbxb (congrArg Addr.block e))).trans hS3.2⟩ (fun _ => ?_)
      clear hK K
      refine tree_done ?_
      try (simp only [Act.put, List.setIfInBounds_toArray, List.set_cons_zero, List.set_cons_succ])
      go_wp2_with fail
      go_ret
      exact ⟨by rw [HZ.out]; rfl, _, by rw [HZ.out]; exact HPA.out.1, HPA.out.2⟩
    · go_simp
      have hSa : (X.drew.alloc (.cells #[.int .i64 1, .int .i64 (t.at_ : Int), .int .i64 0, .string (txt t.text), .int .i64 0, .int .i64 0, .int .i64 0, .int .i64 0, .int .i64 0, .int .i64 0, .int .i64 0, .int .i64 0, .string ⟨#[]⟩] 69)).cell? ⟨w1.heap.size, 2, none⟩ = some (.int .i64 (t.at_ : Int)) ∧ (X.drew.alloc (.cells #[.int .i64 1, .int .i64 (t.at_ : Int), .int .i64 0, .string (txt t.text), .int .i64 0, .int .i64 0, .int .i64 0, .int .i64 0, .int .i64 0, .int .i64 0, .int .i64 0, .int .i64 0, .string ⟨#[]⟩] 69)).cell? ⟨w1.heap.size, 3, none⟩ = some (.string (txt t.text)) := ⟨(World.cell?_alloc_lt _ _ _ HTL.out).trans hS0.1, (World.cell?_alloc_lt _ _ _ HTL.out).trans hS0.2⟩
      have c3a : (X.drew.alloc (.cells #[.int .i64 1, .int .i64 (t.at_ : Int), .int .i64 0, .string (txt t.text), .int .i64 0, .int .i64 0, .int .i64 0, .int .i64 0, .int .i64 0, .int .i64 0, .int .i64 0, .int .i64 0, .string ⟨#[]⟩] 69)).cell? ⟨b, 3, none⟩ = some vp := (World.cell?_alloc_lt _ _ _ hbl).trans c3
      have c3b := (show (X.alloc (.cells #[.int .i64 1, .int .i64 (t.at_ : Int), .int .i64 0, .string (txt t.text), .int .i64 0, .int .i64 0, .int .i64 0, .int .i64 0, .int .i64 0, .int .i64 0, .int .i64 0, .int .i64 0, .string ⟨#[]⟩] 69)).cell? ⟨b, 3, none⟩ = some vp from c3a)
      refine hK.out _ _ hSa (fun _ => ?_)
      clear hK K
      try (simp only [Act.put, List.setIfInBounds_toArray, List.set_cons_zero, List.set_cons_succ])
      refine tree_call hSa (by rfl) (fun K hK => ?_)
      go_simp
      refine hK.out _ _ hSa (fun _ => ?_)
      clear hK K
      try (simp only [Act.put, List.setIfInBounds_toArray, List.set_cons_zero, List.set_cons_succ])
      refine tree_call hSa (by rfl) (fun K hK => ?_)
      refine wp_append_row _ (.tmp 39) (.tmp 45) 58 rfl (b + 1) 69 i0 _ 13 120 Tryd.underlying58 HI.out HZ0.out HZ1.out HZ2.out rfl (by omega) _ ps.length (partsL ps) rfl (HP3.out.own.alloc _) _ (.slice (some ⟨X.heap.size, 0, none⟩) 1 1) 1 (partL (⟨1, t.at_, 0, t.text, ins0, tok0⟩ : PartZ)) rfl (row_part X.drew (⟨1, t.at_, 0, t.text, ins0, tok0⟩ : PartZ) _) (partL_cell _) (by unfold maxLen; omega) (by omega) (by simp; omega) ?_
      intro v3 y3 hO3 hg3
      obtain ⟨PA, hS3, q3, q4, hy3, A3, k3, rfl⟩ := HEND.out _ _ _ hg3 hO3
      have HPA := Lib.hid PA
      clear hO3 hg3 PA
      refine hK.out _ _ hS3 (fun _ => ?_)
      clear hK K
      try (simp only [Act.put, List.setIfInBounds_toArray, List.set_cons_zero, List.set_cons_succ])
      iterate 2 (refine tree_take (v := ?_) hS3 (by rfl) ?_ ?_; rotate_left; (intro x hx; obtain ⟨x2, x3⟩ := hx; go_simp; try (with_reducible rfl)); (simp only [Act.put, List.setIfInBounds_toArray, List.set_cons_zero, List.set_cons_succ]))
      refine tree_call hS3 (by rfl) (fun K hK => ?_)
      go_simp
      refine hK.out _ _ ⟨(World.cell?_setCell_other _ _ _ _ (fun e => hbxb (congrArg Addr.block e))).trans hS3.1, (World.cell?_setCell_other _ _ _ _ (fun e => hbxb (congrArg Addr.block e))).trans hS3.2⟩ (fun _ => ?_)
      clear hK K
      refine tree_done ?_
      try (simp only [Act.put, List.setIfInBounds_toArray, List.set_cons_zero, List.set_cons_succ])
      go_wp2_with fail
      go_ret
      exact ⟨by rw [HZ.out]; rfl, _, by rw [HZ.out]; exact HPA.out.1, HPA.out.2⟩
  · have HR2 : Hid (Row w b 4 (.slice (some ⟨g, off + 8, none⟩) ts.length (cc - 2)) ts.length (toksL ts)) := by
      have := HR.out.behind2
      rw [if_neg hc2] at this
      exact this
    have m4 : (2 : Int) < cc := by omega
    have hX := (Below.refl b w2).setCell (p := ⟨b, 0, none⟩) (Nat.le_refl _) (.slice (some ⟨g, off + 8, none⟩) ts.length (cc - 2))
    have hBb : Below b w (w2.setCell ⟨b, 0, none⟩ (.slice (some ⟨g, off + 8, none⟩) ts.length (cc - 2))) := (HB.out.mono (Nat.le_of_lt hlt)).trans hX
    have hKS : KeepS (fun j => j = b) w2 (w2.setCell ⟨b, 0, none⟩ (.slice (some ⟨g, off + 8, none⟩) ts.length (cc - 2))) := (KeepS.refl (fun j => j = b) w2).setCell rfl _ _
    have hKS2 : KeepS (fun j => j = b) w (w2.setCell ⟨b, 0, none⟩ (.slice (some ⟨g, off + 8, none⟩) ts.length (cc - 2))) := (KeepS.of_below HB.out).trans hKS
    have hPX : Par (w2.setCell ⟨b, 0, none⟩ (.slice (some ⟨g, off + 8, none⟩) ts.length (cc - 2))) b e ts vp ps := ⟨_, vn, (HBX0.out.below HB.out hlt).setCell 0 _, HR2.out.below hBb, HNM.out.below hBb, own_keepS HPP.out hKS2 (fun g hg e => by have := (HPP.out.lt g hg).1; omega), fun x hx => HTK.out x (List.mem_cons_of_mem _ (List.mem_cons_of_mem _ hx))⟩
    have HT2 : Hid ((w2.setCell ⟨b, 0, none⟩ (.slice (some ⟨g, off + 8, none⟩) ts.length (cc - 2))).drew.cell? ⟨w1.heap.size, 2, none⟩ = some (.int .i64 (t.at_ : Int))) := hKS.cell (by omega) (fun e => by omega) TK2.out
    have HT3 : Hid ((w2.setCell ⟨b, 0, none⟩ (.slice (some ⟨g, off + 8, none⟩) ts.length (cc - 2))).drew.cell? ⟨w1.heap.size, 3, none⟩ = some (.string (txt t.text))) := hKS.cell (by omega) (fun e => by omega) TK3.out
    have HTL : Hid (w1.heap.size < (w2.setCell ⟨b, 0, none⟩ (.slice (some ⟨g, off + 8, none⟩) ts.length (cc - 2))).drew.heap.size) := by show _ < (w2.setCell ⟨b, 0, none⟩ (.slice (some ⟨g, off + 8, none⟩) ts.length (cc - 2))).heap.size; simp [World.setCell]; omega
    have HP3 : Hid (Par (w2.setCell ⟨b, 0, none⟩ (.slice (some ⟨g, off + 8, none⟩) ts.length (cc - 2))).drew b e ts vp ps) := hPX.drewN 1
    have HBX := Lib.hid hBb
    have HNB : Hid (vp.ownBlock ≠ some w1.heap.size) := fun e => by have := HVB.out _ e; have := HB1.out.size; omega
    have hbxb : b ≠ w1.heap.size := by omega
    clear hX hBb hKS hKS2 hPX
    go_wp2_with fail
    generalize w2.setCell ⟨b, 0, none⟩ (.slice (some ⟨g, off + 8, none⟩) ts.length (cc - 2)) = X at *
    refine wp_region_tree (fun a x => _) (LinT.of [(0, true), (1, true), (2, true), (3, true), (5, true), (6, true), (7, true), (8, true), (9, true)] (.two 4 10 (LinT.of [(10, false), (11, false), (12, true), (13, true), (14, false)] .nil) (LinT.of [(4, false), (11, false), (12, true), (13, true), (14, false)] .nil))) (by kernel_rfl) (by kernel_rfl) rfl (by kernel_rfl) (fun x => x.cell? ⟨w1.heap.size, 2, none⟩ = some (.int .i64 (t.at_ : Int)) ∧ x.cell? ⟨w1.heap.size, 3, none⟩ = some (.string (txt t.text))) (fun _ _ h => h) ?_
    simp only [LinT.of, LinT.look, List.getElem?_toArray, List.getElem?_cons_succ, List.getElem?_cons_zero]
    have hS0 : X.drew.cell? ⟨w1.heap.size, 2, none⟩ = some (.int .i64 (t.at_ : Int)) ∧ X.drew.cell? ⟨w1.heap.size, 3, none⟩ = some (.string (txt t.text)) := ⟨HT2.out, HT3.out⟩
    iterate 9 (refine tree_take (v := ?_) hS0 (by rfl) ?_ ?_; rotate_left; (intro x hx; obtain ⟨x2, x3⟩ := hx; go_simp; try (with_reducible rfl)); (simp only [Act.put, List.setIfInBounds_toArray, List.set_cons_zero, List.set_cons_succ]))
    obtain ⟨i0, hi, hz0, hz1, hz2⟩ := info_parts info_part
    have HI := Lib.hid hi
    have HZ0 := Lib.hid hz0
    have HZ1 := Lib.hid hz1
    have HZ2 := Lib.hid hz2
    clear hi hz0 hz1 hz2
    have c3 := HP3.out.parts
    have hbl := HP3.out.lt
    have HLT := Lib.hid hbl
    have hbl2 : b < X.heap.size := hbl
    have hps := HPS.out
    have END : ∀ (o : Obj) (y3 : World) (v3 : Value), (X.drew.alloc o).grownBy y3 vp.ownBlock → y3.ownsRow (b + 1) 69 13 v3 (ps.length + 1) (partsL ps ++ partL (⟨1, t.at_, 0, t.text, ins0, tok0⟩ : PartZ)) →
        (Par (y3.setCell ⟨b, 3, none⟩ v3) b e ts v3 (ps ++ [(⟨1, t.at_, 0, t.text, ins0, tok0⟩ : PartZ)]) ∧ Below b w (y3.setCell ⟨b, 3, none⟩ v3)) ∧ (y3.cell? ⟨w1.heap.size, 2, none⟩ = some (.int .i64 (t.at_ : Int)) ∧ y3.cell? ⟨w1.heap.size, 3, none⟩ = some (.string (txt t.text))) ∧ y3.cell? ⟨b, 3, none⟩ = some vp ∧ y3.frozen? ⟨b, 3, none⟩ = false ∧ b < y3.heap.size ∧ ∃ A3 k3, v3 = .slice A3 (ps.length + 1) k3 := by
      intro o y3 v3 hg ho
      have hne : some b ≠ vp.ownBlock := fun e => by have := (HP3.out.own.lt b e.symm).1; omega
      obtain ⟨q1, q2⟩ := HP3.out.app hg ho rfl
      obtain ⟨A3, k3, h3⟩ := (Row.of_own ho).form
      have hb2 := ((HP3.out.alloc o).go (Below.refl _ _))
      refine ⟨⟨q1, HBX.out.trans ((Below.refl b X).drew.trans q2)⟩, ⟨hg.cell ((World.cell?_alloc_lt _ _ _ HTL.out).trans HT2.out) (fun e => HNB.out e.symm), hg.cell ((World.cell?_alloc_lt _ _ _ HTL.out).trans HT3.out) (fun e => HNB.out e.symm)⟩, hg.cell (hb2.parts) hne, ?_, ?_, A3, k3, h3⟩
      · rw [World.frozen?_of_block (w := X.drew.alloc o) (hg.block b hb2.lt hne)]; exact hb2.frozen 3
      · have := hg.size; have := hb2.lt; omega
    have HEND := Lib.hid END
    clear END
    refine tree_two hS0 (by rfl) (by rfl) (fun K hK => ?_) (fun K hK => ?_)
    · go_simp
      refine hK.out _ _ hS0 (fun _ => ?_)
      clear hK K
      try (simp only [Act.put, List.setIfInBounds_toArray, List.set_cons_zero, List.set_cons_succ])
      refine tree_call hS0 (by rfl) (fun K hK => ?_)
      go_simp
      have hSa : (X.drew.alloc (.cells #[.int .i64 1, .int .i64 (t.at_ : Int), .int .i64 0, .string (txt t.text), .int .i64 0, .int .i64 0, .int .i64 0, .int .i64 0, .int .i64 0, .int .i64 0, .int .i64 0, .int .i64 0, .string ⟨#[]⟩] 69)).cell? ⟨w1.heap.size, 2, none⟩ = some (.int .i64 (t.at_ : Int)) ∧ (X.drew.alloc (.cells #[.int .i64 1, .int .i64 (t.at_ : Int), .int .i64 0, .string (txt t.text), .int .i64 0, .int .i64 0, .int .i64 0, .int .i64 0, .int .i64 0, .int .i64 0, .int .i64 0, .int .i64 0, .string ⟨#[]⟩] 69)).cell? ⟨w1.heap.size, 3, none⟩ = some (.string (txt t.text)) := ⟨(World.cell?_alloc_lt _ _ _ HTL.out).trans hS0.1, (World.cell?_alloc_lt _ _ _ HTL.out).trans hS0.2⟩
      refine hK.out _ _ hSa (fun _ => ?_)
      clear hK K
      try (simp only [Act.put, List.setIfInBounds_toArray, List.set_cons_zero, List.set_cons_succ])
      refine tree_call hSa (by rfl) (fun K hK => ?_)
      refine wp_append_row _ (.tmp 39) (.tmp 45) 58 rfl (b + 1) 69 i0 _ 13 120 Tryd.underlying58 HI.out HZ0.out HZ1.out HZ2.out rfl (by omega) _ ps.length (partsL ps) rfl (HP3.out.own.alloc _) _ (.slice (some ⟨X.heap.size, 0, none⟩) 1 1) 1 (partL (⟨1, t.at_, 0, t.text, ins0, tok0⟩ : PartZ)) rfl (row_part X.drew (⟨1, t.at_, 0, t.text, ins0, tok0⟩ : PartZ) _) (partL_cell _) (by unfold maxLen; omega) (by omega) (by simp; omega) ?_
      intro v3 y3 hO3 hg3
      obtain ⟨PA, hS3, q3, q4, hy3, A3, k3, rfl⟩ := HEND.out _ _ _ hg3 hO3
      have HPA := Lib.hid PA
      clear hO3 hg3 PA
      refine hK.out _ _ hS3 (fun _ => ?_)
      clear hK K
      try (simp only [Act.put, List.setIfInBounds_toArray, List.set_cons_zero, List.set_cons_succ])
      iterate 2 (refine tree_take (v := ?_) hS3 (by rfl) ?_ ?_; rotate_left; (intro x hx; obtain ⟨x2, x3⟩ := hx; go_simp; try (with_reducible rfl)); (simp only [Act.put, List.setIfInBounds_toArray, List.set_cons_zero, List.set_cons_succ]))
      refine tree_call hS3 (by rfl) (fun K hK => ?_)
      go_simp
      refine hK.out _ _ ⟨(World.cell?_setCell_other _ _ _ _ (fun e => hbxb (congrArg Addr.block e))).trans hS3.1, (World.cell?_setCell_other _ _ _ _ (fun e => hbxb (congrArg Addr.block e))).trans hS3.2⟩ (fun _ => ?_)
      clear hK K
      refine tree_done ?_
      try (simp only [Act.put, List.setIfInBounds_toArray, List.set_cons_zero, List.set_cons_succ])
      go_wp2_with fail
      go_ret
      exact ⟨by rw [HZ.out]; rfl, _, by rw [HZ.out]; exact HPA.out.1, HPA.out.2⟩
    · go_simp
      have hSa : (X.drew.alloc (.cells #[.int .i64 1, .int .i64 (t.at_ : Int), .int .i64 0, .string (txt t.text), .int .i64 0, .int .i64 0, .int .i64 0, .int .i64 0, .int .i64 0, .int .i64 0, .int .i64 0, .int .i64 0, .string ⟨#[]⟩] 69)).cell? ⟨w1.heap.size, 2, none⟩ = some (.int .i64 (t.at_ : Int)) ∧ (X.drew.alloc (.cells #[.int .i64 1, .int .i64 (t.at_ : Int), .int .i64 0, .string (txt t.text), .int .i64 0, .int .i64 0, .int .i64 0, .int .i64 0, .int .i64 0, .int .i64 0, .int .i64 0, .int .i64 0, .string ⟨#[]⟩] 69)).cell? ⟨w1.heap.size, 3, none⟩ = some (.string (txt t.text)) := ⟨(World.cell?_alloc_lt _ _ _ HTL.out).trans hS0.1, (World.cell?_alloc_lt _ _ _ HTL.out).trans hS0.2⟩
      have c3a : (X.drew.alloc (.cells #[.int .i64 1, .int .i64 (t.at_ : Int), .int .i64 0, .string (txt t.text), .int .i64 0, .int .i64 0, .int .i64 0, .int .i64 0, .int .i64 0, .int .i64 0, .int .i64 0, .int .i64 0, .string ⟨#[]⟩] 69)).cell? ⟨b, 3, none⟩ = some vp := (World.cell?_alloc_lt _ _ _ hbl).trans c3
      have c3b := (show (X.alloc (.cells #[.int .i64 1, .int .i64 (t.at_ : Int), .int .i64 0, .string (txt t.text), .int .i64 0, .int .i64 0, .int .i64 0, .int .i64 0, .int .i64 0, .int .i64 0, .int .i64 0, .int .i64 0, .string ⟨#[]⟩] 69)).cell? ⟨b, 3, none⟩ = some vp from c3a)
      refine hK.out _ _ hSa (fun _ => ?_)
      clear hK K
      try (simp only [Act.put, List.setIfInBounds_toArray, List.set_cons_zero, List.set_cons_succ])
      refine tree_call hSa (by rfl) (fun K hK => ?_)
      go_simp
      refine hK.out _ _ hSa (fun _ => ?_)
      clear hK K
      try (simp only [Act.put, List.setIfInBounds_toArray, List.set_cons_zero, List.set_cons_succ])
      refine tree_call hSa (by rfl) (fun K hK => ?_)
      refine wp_append_row _ (.tmp 39) (.tmp 45) 58 rfl (b + 1) 69 i0 _ 13 120 Tryd.underlying58 HI.out HZ0.out HZ1.out HZ2.out rfl (by omega) _ ps.length (partsL ps) rfl (HP3.out.own.alloc _) _ (.slice (some ⟨X.heap.size, 0, none⟩) 1 1) 1 (partL (⟨1, t.at_, 0, t.text, ins0, tok0⟩ : PartZ)) rfl (row_part X.drew (⟨1, t.at_, 0, t.text, ins0, tok0⟩ : PartZ) _) (partL_cell _) (by unfold maxLen; omega) (by omega) (by simp; omega) ?_
      intro v3 y3 hO3 hg3
      obtain ⟨PA, hS3, q3, q4, hy3, A3, k3, rfl⟩ := HEND.out _ _ _ hg3 hO3
      have HPA := Lib.hid PA
      clear hO3 hg3 PA
      refine hK.out _ _ hS3 (fun _ => ?_)
      clear hK K
      try (simp only [Act.put, List.setIfInBounds_toArray, List.set_cons_zero, List.set_cons_succ])
      iterate 2 (refine tree_take (v := ?_) hS3 (by rfl) ?_ ?_; rotate_left; (intro x hx; obtain ⟨x2, x3⟩ := hx; go_simp; try (with_reducible rfl)); (simp only [Act.put, List.setIfInBounds_toArray, List.set_cons_zero, List.set_cons_succ]))
      refine tree_call hS3 (by rfl) (fun K hK => ?_)
      go_simp
      refine hK.out _ _ ⟨(World.cell?_setCell_other _ _ _ _ (fun e => hbxb (congrArg Addr.block e))).trans hS3.1, (World.cell?_setCell_other _ _ _ _ (fun e => hbxb (congrArg Addr.block e))).trans hS3.2⟩ (fun _ => ?_)
      clear hK K
      refine tree_done ?_
      try (simp only [Act.put, List.setIfInBounds_toArray, List.set_cons_zero, List.set_cons_succ])
      go_wp2_with fail
      go_ret
      exact ⟨by rw [HZ.out]; rfl, _, by rw [HZ.out]; exact HPA.out.1, HPA.out.2⟩
theorem label_any (w : World) (b e : Nat) (r : List Tok) (vp : Value) (ps : List PartZ) (hP : Par w b e r vp ps) (hps : ps.length ≤ 1000000) :
    Calls Tryd.prog 69 #[.pointer (some ⟨b, 0, none⟩)] w (AppOut w b e ps (labT r)) := by
  by_cases hk : (nextT r e).kind = 1
  · rcases r with _ | ⟨t, _ | ⟨c, ts⟩⟩
    · exact absurd hk (by simp [nextT])
    · exact label_short w b e t vp ps hP hk
    · cases hs : isS c [58]
      · exact label_nosign w b e t c ts vp ps hP hk hs
      · exact label_yes w b e t c ts vp ps hP hk hps hs
  · exact label_no w b e r vp ps hP hk
end Go.Proofs.YtfdegdbknponkaaDoor.Words

/- Contracts of package asm's statement and lineEnd. -/
namespace Go.Proofs.YtfdegdbknponkaaDoor.Words
set_option maxRecDepth 100000
open Go.RowKit Go.Shelf Go.Lib
set_option linter.unusedVariables false
set_option linter.unusedSimpArgs false

theorem beq_dec (a b : List UInt8) : (a == b) = decide (a = b) := by
  by_cases h : a = b
  · rw [decide_eq_true h]; exact beq_iff_eq.2 h
  · rw [decide_eq_false h]; exact beq_eq_false_iff_ne.2 h
theorem txt_inj {a b : List UInt8} : txt a = txt b ↔ a = b :=
  ⟨fun h => by have := congrArg (fun s : ByteArray => s.data.toList) h; simpa using this, fun h => by rw [h]⟩
theorem op_idx (t : List UInt8) : ∀ (ns : List (List UInt8)) (i : Nat), Lib.idxFromS (ns.map txt) (txt t) i = opF t ns i - 1
  | [], i => rfl
  | n :: ns, i => by
    show (if txt n = txt t then (i : Int) else Lib.idxFromS (ns.map txt) (txt t) (i + 1)) = (if n = t then (i : Int) + 1 else opF t ns ((i : Int) + 1)) - 1
    by_cases h : n = t
    · rw [if_pos (txt_inj.2 h), if_pos h]; omega
    · rw [if_neg (fun e => h (txt_inj.1 e)), if_neg h, op_idx t ns (i + 1)]; rfl
theorem names_at {j : Nat} (hj : j < 41) : namesL[j]? = some (.string ((namesZ.map txt).getD j ByteArray.empty)) := by
  have h : namesZ[j]? = some namesZ[j] := List.getElem?_eq_getElem (show j < 41 from hj)
  unfold namesL
  rw [List.getElem?_map, h, List.getD_eq_getElem?_getD, List.getElem?_map, h]
  rfl
theorem index_any (t : List UInt8) (vn : Value) (B : Nat) (w : World) (hr : Row w B 1 vn 41 namesL) :
    Calls Tryd.prog 89 #[vn, .string (txt t)] w fun e w' => e = .returned (.int .i64 (opZ t - 1)) ∧ w = w' := by
  obtain ⟨A, c, rfl⟩ := hr.form
  obtain ⟨g, off, rfl, hg, hc⟩ := hr.at_ (by omega)
  refine (Tryd.slices_Index_string g off 41 c (namesZ.map txt) (txt t) w (by decide) (by omega) (fun j hj => hc j _ (names_at hj))).mono ?_
  rintro e w' ⟨rfl, rfl⟩
  refine ⟨?_, rfl⟩
  rw [show (namesZ.map txt).take 41 = namesZ.map txt from rfl]
  unfold Lib.idxOfS
  rw [op_idx t namesZ 0]
  rfl
theorem quiet_asm {P : Program} {f : FuncId} {args : Array Value} {w : World} {n : Nat} {v : Value} (h : Calls P f args (w.drewN n) fun e w' => e = .returned v ∧ w.drewN n = w') :
    Calls P f args (w.drewN n) fun e w'' => e = .returned v ∧ ∃ m, w'' = w.drewN m := h.mono fun _ _ ⟨he, hm⟩ => ⟨he, n, hm.symm⟩
theorem Shapes.belowB {w w' : World} {B : Nat} (h : Shapes w) (hb : Below B w w') (hg : 2 < B) : Shapes w' :=
  ⟨Nat.lt_of_lt_of_le h.1 hb.size, fun k t ht => below_cell hb hg (h.2 k t ht)⟩
theorem stmtT_kind {r : List Tok} (e : Nat) (h : (nextT r e).kind ≠ 1) : stmtT r = (true, r, []) := by
  cases r with
  | nil => rfl
  | cons t ts =>
    have h2 : t.kind ≠ 1 := h
    have e1 : stmtT (t :: ts) = if t.kind ≠ 1 then (true, t :: ts, []) else if 0 < opZ t.text then insT (opZ t.text) t.at_ ts else if t.text = sizeN then numT 3 ts else if t.text = byteN then bytesT ts else (false, t :: ts, []) := rfl
    rw [e1, if_pos h2]
theorem stmtT_one (t : Tok) (ts : List Tok) (h : t.kind = 1) : stmtT (t :: ts) = if 0 < opZ t.text then insT (opZ t.text) t.at_ ts else if t.text = sizeN then numT 3 ts else if t.text = byteN then bytesT ts else (false, t :: ts, []) := by
  have e1 : stmtT (t :: ts) = if t.kind ≠ 1 then (true, t :: ts, []) else if 0 < opZ t.text then insT (opZ t.text) t.at_ ts else if t.text = sizeN then numT 3 ts else if t.text = byteN then bytesT ts else (false, t :: ts, []) := rfl
  rw [e1, if_neg (fun e => e h)]
theorem AppOut.to {w X w' : World} {b e : Nat} {ps : List PartZ} {Z Z' : Bool × List Tok × List PartZ} {en : Ending} (h : AppOut X b e ps Z en w') (hb : Below b w X) (hz : Z' = Z) : AppOut w b e ps Z' en w' := by
  subst hz
  obtain ⟨h1, vp', h2, h3⟩ := h
  exact ⟨h1, vp', h2, hb.trans h3⟩

section
variable (w : World) (b e : Nat) (r : List Tok) (vp : Value) (ps : List PartZ)
set_option maxHeartbeats 4000000 in
theorem stmt_none (hP : Par w b e r vp ps) (h : (nextT r e).kind ≠ 1) :
    Calls Tryd.prog 70 #[.pointer (some ⟨b, 0, none⟩)] w (AppOut w b e ps (stmtT r)) := by
  have HP := Lib.hid hP
  have hlt := hP.lt
  have hN := next_any w b e r vp ps hP
  have HZ := Lib.hid (stmtT_kind e h)
  generalize nextT r e = t at *
  have h3 : (t.kind != 1) = true := by simpa using h
  clear hP h
  go_enter Tryd.func70, Tryd.ntmps70
  go_wp2_with fail
  refine hN.mono ?_; rintro en w1 ⟨rfl, hb1⟩
  have HB1 := Lib.hid hb1
  clear hb1
  go_wp2_with fail
  go_ret
  have hB := HB1.out.alloc HB1.out.size (.cells #[.int .i64 t.kind, .int .i64 t.num, .int .i64 (t.at_ : Int), .string (txt t.text)] 62)
  exact ⟨by rw [HZ.out]; rfl, vp, by rw [HZ.out]; simpa using HP.out.go hB, hB.mono (Nat.le_of_lt hlt)⟩
end

set_option maxHeartbeats 4000000 in
theorem stmt_ins (w : World) (b e : Nat) (t : Tok) (ts : List Tok) (vp : Value) (ps : List PartZ) (hP : Par w b e (t :: ts) vp ps) (hS : Shapes w) (hgb : 2 < b) (hps : ps.length + ts.length ≤ 1000000) (h : t.kind = 1) (hop : 0 < opZ t.text) :
    Calls Tryd.prog 70 #[.pointer (some ⟨b, 0, none⟩)] w (AppOut w b e ps (stmtT (t :: ts))) := by
  have HP := Lib.hid hP
  have HS := Lib.hid hS
  have HPS := Lib.hid hps
  have hlt := hP.lt
  have hN := next_any w b e (t :: ts) vp ps hP
  change Calls _ _ _ _ (fun en w' => en = .returned (tokV t) ∧ _) at hN
  have HZ := Lib.hid (stmtT_one t ts h)
  obtain ⟨o0, o1⟩ := opZ_range t.text
  obtain ⟨vt, vn, hbox, ht, hn, hp, htk⟩ := hP
  have z2 := hbox.cell (k := 2) rfl
  have HN := Lib.hid hn
  have h3 : (t.kind != 1) = false := by simp [h]
  have hb1s : (t.text == [115, 105, 122, 101]) = decide (t.text = sizeN) := beq_dec t.text sizeN
  have cI0 := Lib.hid (fun (y : World) (hy : Row y b 1 vn 41 namesL) => index_any t.text vn b y hy)
  have hb1b : (t.text == [98, 121, 116, 101]) = decide (t.text = byteN) := beq_dec t.text byteN
  rw [if_pos hop] at HZ
  generalize opZ t.text = op at *
  have q0 : decide (0 < op) = true := decide_eq_true hop
  clear hS hps h hbox ht hn hp htk
  go_enter Tryd.func70, Tryd.ntmps70
  go_wp2_with fail
  refine hN.mono ?_; rintro en w1 ⟨rfl, hb1⟩
  have HB1 := Lib.hid hb1
  have hlt1 := Nat.lt_of_lt_of_le hlt hb1.size
  have y2 := below_cell hb1 hlt z2
  have hB1 := hb1.alloc hb1.size (.cells #[.int .i64 t.kind, .int .i64 t.num, .int .i64 (t.at_ : Int), .string (txt t.text)] 62)
  have cI := fun n => cI0.out ((w1.alloc (.cells #[.int .i64 t.kind, .int .i64 t.num, .int .i64 (t.at_ : Int), .string (txt t.text)] 62)).drewN n) (((HN.out.below (hB1.mono (Nat.le_of_lt hlt)))).drewN n)
  have HX0 : Hid (Below b w (w1.alloc (.cells #[.int .i64 t.kind, .int .i64 t.num, .int .i64 (t.at_ : Int), .string (txt t.text)] 62))) := hB1.mono (Nat.le_of_lt hlt)
  have HP1 : Hid (Par (w1.alloc (.cells #[.int .i64 t.kind, .int .i64 t.num, .int .i64 (t.at_ : Int), .string (txt t.text)] 62)) b e (t :: ts) vp ps) := HP.out.go hB1
  clear hb1 z2 hB1
  go_wp2_with fail
  go_quiet ((go_at_call 89; refine quiet_asm (cI _)))
  go_wp2_with fail
  refine (skip_any _ _ _ _ _ _ _ (HP1.out.drewN _)).mono ?_; rintro en w3 ⟨rfl, hp3, hk3⟩
  have hlx := HP1.out.lt
  have HP3 := Lib.hid hp3
  have HX3 : Hid (Below b w w3) := (HX0.out.trans (Below.drewN_ (Below.refl _ _) _)).trans (hk3.below (Nat.le_of_lt hlx) (fun j hj => by omega))
  have HTA : Hid (w3.cell? ⟨w1.heap.size, 2, none⟩ = some (.int .i64 (t.at_ : Int))) := hk3.cell (by show w1.heap.size < (w1.alloc _).heap.size; simp) (fun e => by omega) (by show (w1.alloc _).cell? _ = _; go_simp)
  have hsz3 : w1.heap.size < w3.heap.size := by have := hk3.size; have h2 : (w1.alloc (.cells #[.int .i64 t.kind, .int .i64 t.num, .int .i64 (t.at_ : Int), .string (txt t.text)] 62)).heap.size = w1.heap.size + 1 := (by simp); have h3 : w1.heap.size + 1 ≤ w3.heap.size := Nat.le_trans (Nat.le_of_eq h2.symm) this; omega
  have a2 := HTA.out
  clear hp3 hk3
  go_wp2_with fail
  refine (instruction_any op t.at_ w3 b e ts vp ps HP3.out (HS.out.belowB HX3.out hgb) hgb HPS.out).mono ?_
  rintro en w4 hA
  have HA := Lib.hid hA
  obtain ⟨rfl, _⟩ := hA
  go_wp2_with fail
  go_ret
  exact HA.out.to HX3.out HZ.out

set_option maxHeartbeats 4000000 in
theorem stmt_size (w : World) (b e : Nat) (t : Tok) (ts : List Tok) (vp : Value) (ps : List PartZ) (hP : Par w b e (t :: ts) vp ps) (hS : Shapes w) (hgb : 2 < b) (hps : ps.length + ts.length ≤ 1000000) (h : t.kind = 1) (hop : ¬ 0 < opZ t.text) (htx : t.text = sizeN) :
    Calls Tryd.prog 70 #[.pointer (some ⟨b, 0, none⟩)] w (AppOut w b e ps (stmtT (t :: ts))) := by
  have HP := Lib.hid hP
  have HS := Lib.hid hS
  have HPS := Lib.hid hps
  have hlt := hP.lt
  have hN := next_any w b e (t :: ts) vp ps hP
  change Calls _ _ _ _ (fun en w' => en = .returned (tokV t) ∧ _) at hN
  have HZ := Lib.hid (stmtT_one t ts h)
  obtain ⟨o0, o1⟩ := opZ_range t.text
  obtain ⟨vt, vn, hbox, ht, hn, hp, htk⟩ := hP
  have z2 := hbox.cell (k := 2) rfl
  have HN := Lib.hid hn
  have h3 : (t.kind != 1) = false := by simp [h]
  have hb1s : (t.text == [115, 105, 122, 101]) = decide (t.text = sizeN) := beq_dec t.text sizeN
  have cI0 := Lib.hid (fun (y : World) (hy : Row y b 1 vn 41 namesL) => index_any t.text vn b y hy)
  have hb1b : (t.text == [98, 121, 116, 101]) = decide (t.text = byteN) := beq_dec t.text byteN
  rw [if_neg hop, if_pos htx] at HZ
  generalize opZ t.text = op at *
  have q0 : decide (0 < op) = false := decide_eq_false hop
  rw [decide_eq_true htx] at hb1s
  clear hb1b htx
  clear hS hps h hbox ht hn hp htk
  go_enter Tryd.func70, Tryd.ntmps70
  go_wp2_with fail
  refine hN.mono ?_; rintro en w1 ⟨rfl, hb1⟩
  have HB1 := Lib.hid hb1
  have hlt1 := Nat.lt_of_lt_of_le hlt hb1.size
  have y2 := below_cell hb1 hlt z2
  have hB1 := hb1.alloc hb1.size (.cells #[.int .i64 t.kind, .int .i64 t.num, .int .i64 (t.at_ : Int), .string (txt t.text)] 62)
  have cI := fun n => cI0.out ((w1.alloc (.cells #[.int .i64 t.kind, .int .i64 t.num, .int .i64 (t.at_ : Int), .string (txt t.text)] 62)).drewN n) (((HN.out.below (hB1.mono (Nat.le_of_lt hlt)))).drewN n)
  have HX0 : Hid (Below b w (w1.alloc (.cells #[.int .i64 t.kind, .int .i64 t.num, .int .i64 (t.at_ : Int), .string (txt t.text)] 62))) := hB1.mono (Nat.le_of_lt hlt)
  have HP1 : Hid (Par (w1.alloc (.cells #[.int .i64 t.kind, .int .i64 t.num, .int .i64 (t.at_ : Int), .string (txt t.text)] 62)) b e (t :: ts) vp ps) := HP.out.go hB1
  clear hb1 z2 hB1
  go_wp2_with fail
  go_quiet ((go_at_call 89; refine quiet_asm (cI _)))
  go_wp2_with fail
  refine (skip_any _ _ _ _ _ _ _ (HP1.out.drewN _)).mono ?_; rintro en w3 ⟨rfl, hp3, hk3⟩
  have hlx := HP1.out.lt
  have HP3 := Lib.hid hp3
  have HX3 : Hid (Below b w w3) := (HX0.out.trans (Below.drewN_ (Below.refl _ _) _)).trans (hk3.below (Nat.le_of_lt hlx) (fun j hj => by omega))
  have HTA : Hid (w3.cell? ⟨w1.heap.size, 2, none⟩ = some (.int .i64 (t.at_ : Int))) := hk3.cell (by show w1.heap.size < (w1.alloc _).heap.size; simp) (fun e => by omega) (by show (w1.alloc _).cell? _ = _; go_simp)
  have hsz3 : w1.heap.size < w3.heap.size := by have := hk3.size; have h2 : (w1.alloc (.cells #[.int .i64 t.kind, .int .i64 t.num, .int .i64 (t.at_ : Int), .string (txt t.text)] 62)).heap.size = w1.heap.size + 1 := (by simp); have h3 : w1.heap.size + 1 ≤ w3.heap.size := Nat.le_trans (Nat.le_of_eq h2.symm) this; omega
  have a2 := HTA.out
  clear hp3 hk3
  go_wp2_with fail
  refine (asmNumber_any 3 w3 b e ts vp ps HP3.out (by have := HPS.out; omega)).mono ?_
  rintro en w4 hA
  have HA := Lib.hid hA
  obtain ⟨rfl, _⟩ := hA
  go_wp2_with fail
  go_ret
  exact HA.out.to HX3.out HZ.out

set_option maxHeartbeats 4000000 in
theorem stmt_byte (w : World) (b e : Nat) (t : Tok) (ts : List Tok) (vp : Value) (ps : List PartZ) (hP : Par w b e (t :: ts) vp ps) (hS : Shapes w) (hgb : 2 < b) (hps : ps.length + ts.length ≤ 1000000) (h : t.kind = 1) (hop : ¬ 0 < opZ t.text) (htx : t.text ≠ sizeN) (htb : t.text = byteN) :
    Calls Tryd.prog 70 #[.pointer (some ⟨b, 0, none⟩)] w (AppOut w b e ps (stmtT (t :: ts))) := by
  have HP := Lib.hid hP
  have HS := Lib.hid hS
  have HPS := Lib.hid hps
  have hlt := hP.lt
  have hN := next_any w b e (t :: ts) vp ps hP
  change Calls _ _ _ _ (fun en w' => en = .returned (tokV t) ∧ _) at hN
  have HZ := Lib.hid (stmtT_one t ts h)
  obtain ⟨o0, o1⟩ := opZ_range t.text
  obtain ⟨vt, vn, hbox, ht, hn, hp, htk⟩ := hP
  have z2 := hbox.cell (k := 2) rfl
  have HN := Lib.hid hn
  have h3 : (t.kind != 1) = false := by simp [h]
  have hb1s : (t.text == [115, 105, 122, 101]) = decide (t.text = sizeN) := beq_dec t.text sizeN
  have cI0 := Lib.hid (fun (y : World) (hy : Row y b 1 vn 41 namesL) => index_any t.text vn b y hy)
  have hb1b : (t.text == [98, 121, 116, 101]) = decide (t.text = byteN) := beq_dec t.text byteN
  rw [if_neg hop, if_neg htx, if_pos htb] at HZ
  generalize opZ t.text = op at *
  have q0 : decide (0 < op) = false := decide_eq_false hop
  rw [decide_eq_false htx] at hb1s
  rw [decide_eq_true htb] at hb1b
  clear htx htb
  clear hS hps h hbox ht hn hp htk
  go_enter Tryd.func70, Tryd.ntmps70
  go_wp2_with fail
  refine hN.mono ?_; rintro en w1 ⟨rfl, hb1⟩
  have HB1 := Lib.hid hb1
  have hlt1 := Nat.lt_of_lt_of_le hlt hb1.size
  have y2 := below_cell hb1 hlt z2
  have hB1 := hb1.alloc hb1.size (.cells #[.int .i64 t.kind, .int .i64 t.num, .int .i64 (t.at_ : Int), .string (txt t.text)] 62)
  have cI := fun n => cI0.out ((w1.alloc (.cells #[.int .i64 t.kind, .int .i64 t.num, .int .i64 (t.at_ : Int), .string (txt t.text)] 62)).drewN n) (((HN.out.below (hB1.mono (Nat.le_of_lt hlt)))).drewN n)
  have HX0 : Hid (Below b w (w1.alloc (.cells #[.int .i64 t.kind, .int .i64 t.num, .int .i64 (t.at_ : Int), .string (txt t.text)] 62))) := hB1.mono (Nat.le_of_lt hlt)
  have HP1 : Hid (Par (w1.alloc (.cells #[.int .i64 t.kind, .int .i64 t.num, .int .i64 (t.at_ : Int), .string (txt t.text)] 62)) b e (t :: ts) vp ps) := HP.out.go hB1
  clear hb1 z2 hB1
  go_wp2_with fail
  go_quiet ((go_at_call 89; refine quiet_asm (cI _)))
  go_wp2_with fail
  refine (skip_any _ _ _ _ _ _ _ (HP1.out.drewN _)).mono ?_; rintro en w3 ⟨rfl, hp3, hk3⟩
  have hlx := HP1.out.lt
  have HP3 := Lib.hid hp3
  have HX3 : Hid (Below b w w3) := (HX0.out.trans (Below.drewN_ (Below.refl _ _) _)).trans (hk3.below (Nat.le_of_lt hlx) (fun j hj => by omega))
  have HTA : Hid (w3.cell? ⟨w1.heap.size, 2, none⟩ = some (.int .i64 (t.at_ : Int))) := hk3.cell (by show w1.heap.size < (w1.alloc _).heap.size; simp) (fun e => by omega) (by show (w1.alloc _).cell? _ = _; go_simp)
  have hsz3 : w1.heap.size < w3.heap.size := by have := hk3.size; have h2 : (w1.alloc (.cells #[.int .i64 t.kind, .int .i64 t.num, .int .i64 (t.at_ : Int), .string (txt t.text)] 62)).heap.size = w1.heap.size + 1 := (by simp); have h3 : w1.heap.size + 1 ≤ w3.heap.size := Nat.le_trans (Nat.le_of_eq h2.symm) this; omega
  have a2 := HTA.out
  clear hp3 hk3
  go_wp2_with fail
  refine (byteList_any w3 b e ts vp ps HP3.out HPS.out).mono ?_
  rintro en w4 hA
  have HA := Lib.hid hA
  obtain ⟨rfl, _⟩ := hA
  go_wp2_with fail
  go_ret
  exact HA.out.to HX3.out HZ.out

set_option maxHeartbeats 4000000 in
theorem stmt_other (w : World) (b e : Nat) (t : Tok) (ts : List Tok) (vp : Value) (ps : List PartZ) (hP : Par w b e (t :: ts) vp ps) (hS : Shapes w) (hgb : 2 < b) (hps : ps.length + ts.length ≤ 1000000) (h : t.kind = 1) (hop : ¬ 0 < opZ t.text) (htx : t.text ≠ sizeN) (htb : t.text ≠ byteN) :
    Calls Tryd.prog 70 #[.pointer (some ⟨b, 0, none⟩)] w (AppOut w b e ps (stmtT (t :: ts))) := by
  have HP := Lib.hid hP
  have HS := Lib.hid hS
  have HPS := Lib.hid hps
  have hlt := hP.lt
  have hN := next_any w b e (t :: ts) vp ps hP
  change Calls _ _ _ _ (fun en w' => en = .returned (tokV t) ∧ _) at hN
  have HZ := Lib.hid (stmtT_one t ts h)
  obtain ⟨o0, o1⟩ := opZ_range t.text
  obtain ⟨vt, vn, hbox, ht, hn, hp, htk⟩ := hP
  have z2 := hbox.cell (k := 2) rfl
  have HN := Lib.hid hn
  have h3 : (t.kind != 1) = false := by simp [h]
  have hb1s : (t.text == [115, 105, 122, 101]) = decide (t.text = sizeN) := beq_dec t.text sizeN
  have cI0 := Lib.hid (fun (y : World) (hy : Row y b 1 vn 41 namesL) => index_any t.text vn b y hy)
  have hb1b : (t.text == [98, 121, 116, 101]) = decide (t.text = byteN) := beq_dec t.text byteN
  rw [if_neg hop, if_neg htx, if_neg htb] at HZ
  generalize opZ t.text = op at *
  have q0 : decide (0 < op) = false := decide_eq_false hop
  rw [decide_eq_false htx] at hb1s
  rw [decide_eq_false htb] at hb1b
  clear htx htb
  clear hS hps h hbox ht hn hp htk
  go_enter Tryd.func70, Tryd.ntmps70
  go_wp2_with fail
  refine hN.mono ?_; rintro en w1 ⟨rfl, hb1⟩
  have HB1 := Lib.hid hb1
  have hlt1 := Nat.lt_of_lt_of_le hlt hb1.size
  have y2 := below_cell hb1 hlt z2
  have hB1 := hb1.alloc hb1.size (.cells #[.int .i64 t.kind, .int .i64 t.num, .int .i64 (t.at_ : Int), .string (txt t.text)] 62)
  have cI := fun n => cI0.out ((w1.alloc (.cells #[.int .i64 t.kind, .int .i64 t.num, .int .i64 (t.at_ : Int), .string (txt t.text)] 62)).drewN n) (((HN.out.below (hB1.mono (Nat.le_of_lt hlt)))).drewN n)
  have HX0 : Hid (Below b w (w1.alloc (.cells #[.int .i64 t.kind, .int .i64 t.num, .int .i64 (t.at_ : Int), .string (txt t.text)] 62))) := hB1.mono (Nat.le_of_lt hlt)
  have HP1 : Hid (Par (w1.alloc (.cells #[.int .i64 t.kind, .int .i64 t.num, .int .i64 (t.at_ : Int), .string (txt t.text)] 62)) b e (t :: ts) vp ps) := HP.out.go hB1
  clear hb1 z2 hB1
  go_wp2_with fail
  go_quiet ((go_at_call 89; refine quiet_asm (cI _)))
  go_wp2_with fail
  go_ret
  exact ⟨by rw [HZ.out]; rfl, vp, by rw [HZ.out]; simpa using HP1.out.drewN _, HX0.out.trans (Below.drewN_ (Below.refl _ _) _)⟩

theorem statement_any (w : World) (b e : Nat) (r : List Tok) (vp : Value) (ps : List PartZ) (hP : Par w b e r vp ps) (hS : Shapes w) (hgb : 2 < b) (hps : ps.length + r.length ≤ 1000000) :
    Calls Tryd.prog 70 #[.pointer (some ⟨b, 0, none⟩)] w (AppOut w b e ps (stmtT r)) := by
  by_cases hk : (nextT r e).kind = 1
  · rcases r with _ | ⟨t, ts⟩
    · exact absurd hk (by simp [nextT])
    · have hk2 : t.kind = 1 := hk
      have hps2 : ps.length + ts.length ≤ 1000000 := by simp at hps; omega
      by_cases hop : 0 < opZ t.text
      · exact stmt_ins w b e t ts vp ps hP hS hgb hps2 hk2 hop
      by_cases htx : t.text = sizeN
      · exact stmt_size w b e t ts vp ps hP hS hgb hps2 hk2 hop htx
      by_cases htb : t.text = byteN
      · exact stmt_byte w b e t ts vp ps hP hS hgb hps2 hk2 hop htx htb
      · exact stmt_other w b e t ts vp ps hP hS hgb hps2 hk2 hop htx htb
  · exact stmt_none w b e r vp ps hP hk
end Go.Proofs.YtfdegdbknponkaaDoor.Words

/- Contracts of package asm's lineEnd, line and text. -/
namespace Go.Proofs.YtfdegdbknponkaaDoor.Words
set_option maxRecDepth 100000
open Go.RowKit Go.Shelf Go.Lib
set_option linter.unusedVariables false
set_option linter.unusedSimpArgs false

theorem labelsF_lab : ∀ f r, labelsF (f + 1) r = if (labT r).1 = true then ((labelsF f (labT r).2.1).1, (labT r).2.2 ++ (labelsF f (labT r).2.1).2) else (r, []) := by
  intro f r
  conv => lhs; unfold labelsF
  unfold labT
  cases labelT r with
  | none => rfl
  | some x => obtain ⟨p, ts⟩ := x; rfl
theorem labT_lt {r : List Tok} (h : (labT r).1 = true) : (labT r).2.2.length + (labT r).2.1.length < r.length := by
  rcases r with _ | ⟨t, _ | ⟨c, ts⟩⟩
  · cases h
  · cases h
  · rw [labT_two] at h ⊢
    split
    · simp; omega
    · rename_i hh; rw [if_neg hh] at h; cases h
theorem labT_no {r : List Tok} (h : (labT r).1 = false) : labT r = (false, r, []) := by
  rcases r with _ | ⟨t, _ | ⟨c, ts⟩⟩
  · rfl
  · rfl
  · rw [labT_two] at h ⊢
    split
    · rename_i hh; rw [if_pos hh] at h; cases h
    · rfl
theorem labelsF_len : ∀ f r, (labelsF f r).2.length + (labelsF f r).1.length ≤ r.length
  | 0, r => by simp [labelsF]
  | f + 1, r => by
    rw [labelsF_lab]
    split
    · rename_i h
      have h1 := labT_lt h
      have h2 := labelsF_len f (labT r).2.1
      simp only [List.length_append]
      omega
    · simp
theorem insT_len2 (op : Int) (at_ : Nat) (r : List Tok) : (insT op at_ r).2.2.length + (insT op at_ r).2.1.length ≤ r.length + 1 := by
  have := fieldsT_len (shapeZ op) ⟨2, at_, 0, [], ⟨op, 0, 0, 0, 0⟩, tok0⟩ r
  unfold insT
  split
  · simp only [List.length_cons, List.length_nil]; omega
  · simp only [List.length_nil]; omega
theorem stmtT_len (r : List Tok) : (stmtT r).2.2.length + (stmtT r).2.1.length ≤ r.length := by
  cases r with
  | nil => exact Nat.le_refl _
  | cons t ts =>
    by_cases h : t.kind = 1
    · rw [stmtT_one t ts h]
      have h1 := insT_len2 (opZ t.text) t.at_ ts
      have h2 := numT_len 3 ts
      have h3 := bytesT_len ts
      simp only [List.length_cons]
      split
      · omega
      split
      · omega
      split
      · omega
      · simp
    · rw [stmtT_kind 0 (show (nextT (t :: ts) 0).kind ≠ 1 from h)]; simp
theorem endT_len (r : List Tok) : (endT r).2.length ≤ r.length := by
  cases r with
  | nil => exact Nat.le_refl _
  | cons t ts =>
    have h : endT (t :: ts) = if t.kind = 4 then (true, ts) else (false, t :: ts) := rfl
    rw [h]; split <;> simp
theorem lineT_len (r : List Tok) : (lineT r).2.2.length + (lineT r).2.1.length ≤ r.length := by
  have h1 := labelsF_len r.length r
  have h2 := stmtT_len (labelsF r.length r).1
  have h3 := endT_len (stmtT (labelsF r.length r).1).2.1
  unfold lineT
  split
  · simp only [List.length_append]; omega
  · simp only [List.length_append]; omega
theorem endT_true {r : List Tok} (h : (endT r).1 = true) : (endT r).2 = [] ∨ (endT r).2.length < r.length := by
  cases r with
  | nil => exact .inl rfl
  | cons t ts =>
    have h1 : endT (t :: ts) = if t.kind = 4 then (true, ts) else (false, t :: ts) := rfl
    rw [h1] at h ⊢
    by_cases hk : t.kind = 4
    · rw [if_pos hk]; right; simp
    · rw [if_neg hk] at h; cases h
theorem lineT_lt {r : List Tok} (h : (lineT r).1 = true) (hr : r ≠ []) : (lineT r).2.1.length < r.length := by
  have h1 := labelsF_len r.length r
  have h2 := stmtT_len (labelsF r.length r).1
  have hp : 0 < r.length := List.length_pos_iff.2 hr
  unfold lineT at h ⊢
  split
  · rename_i hs
    rw [if_pos hs] at h
    rcases endT_true h with h3 | h3
    · simp only [h3, List.length_nil]; exact hp
    · simp only; omega
  · rename_i hs
    rw [if_neg hs] at h; cases h

set_option maxHeartbeats 2000000 in
theorem lineEnd_any (w : World) (b e : Nat) (r : List Tok) (vp : Value) (ps : List PartZ) (hP : Par w b e r vp ps) :
    Calls Tryd.prog 71 #[.pointer (some ⟨b, 0, none⟩)] w (AppOut w b e ps ((endT r).1, (endT r).2, [])) := by
  have HP := Lib.hid hP
  have hlt := hP.lt
  have hN := next_any w b e r vp ps hP
  have fd := field_kind (nextT r e)
  cases r with
  | nil =>
    obtain ⟨vt, vn, hbox, ht, hn, hp, htk⟩ := hP
    obtain ⟨A, c, rfl⟩ := ht.form
    have z0 := hbox.cell (k := 0) rfl
    have hk : ((nextT [] e).kind == 4) = false := rfl
    generalize nextT [] e = t at *
    clear hbox ht hn hp htk
    go_enter Tryd.func71, Tryd.ntmps71
    go_wp2_with fail
    refine hN.mono ?_; rintro en w1 ⟨rfl, hb1⟩
    have HB1 := Lib.hid hb1
    have z1 := below_cell hb1 hlt z0
    clear hb1 z0
    go_wp2_with fail
    go_ret
    exact ⟨rfl, vp, by rw [show (endT []).2 = [] from rfl, List.append_nil]; exact HP.out.go HB1.out, HB1.out.mono (Nat.le_of_lt hlt)⟩
  | cons t ts =>
    change Calls _ _ _ _ (fun en w' => en = .returned (tokV t) ∧ _) at hN
    change ∀ y, (Instr.field _ (tokV t) 0).run _ y = .ok (.int .i64 t.kind) y at fd
    have h1 : endT (t :: ts) = if t.kind = 4 then (true, ts) else (false, t :: ts) := rfl
    by_cases hk : t.kind = 4
    · rw [if_pos hk] at h1
      have H1 := Lib.hid h1
      have hk2 : (t.kind == 4) = true := by simpa using hk
      clear hP h1 hk
      go_enter Tryd.func71, Tryd.ntmps71
      go_wp2_with fail
      refine hN.mono ?_; rintro en w1 ⟨rfl, hb1⟩
      have HB1 := Lib.hid hb1
      clear hb1
      go_wp2_with fail
      refine (skip_any _ _ _ _ _ _ _ (HP.out.go HB1.out)).mono ?_; rintro en w3 ⟨rfl, hp3, hk3⟩
      have HP3 := Lib.hid hp3
      have HB3 := Lib.hid ((HB1.out.mono (Nat.le_of_lt hlt)).trans (hk3.below (Nat.le_trans (Nat.le_of_lt hlt) HB1.out.size) (fun j hj => by omega)))
      clear hp3 hk3
      go_wp2_with fail
      go_ret
      exact ⟨by rw [H1.out]; rfl, vp, by rw [H1.out]; simpa using HP3.out, HB3.out⟩
    · rw [if_neg hk] at h1
      have H1 := Lib.hid h1
      have hk2 : (t.kind == 4) = false := by simpa using hk
      obtain ⟨vt, vn, hbox, ht, hn, hp, htk⟩ := hP
      obtain ⟨A, c, rfl⟩ := ht.form
      have z0 := hbox.cell (k := 0) rfl
      simp only [List.length_cons] at z0
      have l1 : ((ts.length : Int) + 1 == 0) = false := by simp; omega
      clear h1 hk hbox ht hn hp htk
      go_enter Tryd.func71, Tryd.ntmps71
      go_wp2_with fail
      refine hN.mono ?_; rintro en w1 ⟨rfl, hb1⟩
      have HB1 := Lib.hid hb1
      have z1 := below_cell hb1 hlt z0
      clear hb1 z0
      go_wp2_with fail
      go_ret
      exact ⟨by rw [H1.out]; rfl, vp, by rw [H1.out]; simpa using HP.out.go HB1.out, HB1.out.mono (Nat.le_of_lt hlt)⟩

set_option maxHeartbeats 2000000 in
theorem asmLine_any (w : World) (b e : Nat) (r : List Tok) (vp : Value) (ps : List PartZ) (hP : Par w b e r vp ps) (hS : Shapes w) (hgb : 2 < b) (hps : ps.length + r.length ≤ 1000000) :
    Calls Tryd.prog 46 #[.pointer (some ⟨b, 0, none⟩)] w (AppOut w b e ps (lineT r)) := by
  have HP := Lib.hid hP
  have HS := Lib.hid hS
  have HPS := Lib.hid hps
  obtain ⟨R, hR⟩ : ∃ R, R = (labelsF r.length r).1 := ⟨_, rfl⟩
  obtain ⟨Q, hQ⟩ : ∃ Q, Q = (labelsF r.length r).2 := ⟨_, rfl⟩
  have HR := Lib.hid hR
  have HQ := Lib.hid hQ
  have HLQ : Hid (Q.length + R.length ≤ r.length) := by rw [hR, hQ]; exact labelsF_len _ _
  have HZN : Hid ((stmtT R).1 = false → lineT r = (false, (stmtT R).2.1, Q ++ (stmtT R).2.2)) := by
    intro h; unfold lineT; rw [← hR, ← hQ, if_neg (by rw [h]; decide)]
  have HZY : Hid ((stmtT R).1 = true → lineT r = ((endT (stmtT R).2.1).1, (endT (stmtT R).2.1).2, Q ++ (stmtT R).2.2)) := by
    intro h; unfold lineT; rw [← hR, ← hQ, if_pos h]
  clear hP hS hps hR hQ
  go_enter Tryd.func46, Tryd.ntmps46
  go_wp2_with fail
  go_loopw [] (fun wr => ∃ (f : Nat) (r1 : List Tok) (vp1 : Value) (qs : List PartZ), Par wr b e r1 vp1 (ps ++ qs) ∧ Below b w wr ∧ (labelsF f r1).1 = R ∧ qs ++ (labelsF f r1).2 = Q ∧ r1.length ≤ f ∧ qs.length + r1.length ≤ r.length) (fun wr => parMu b wr)
  case atStart => exact ⟨r.length, r, vp, [], by rw [List.append_nil]; exact HP.out, Below.refl _ _, HR.out.symm, by rw [List.nil_append]; exact HQ.out.symm, Nat.le_refl _, by simp⟩
  case round =>
    obtain ⟨f, r1, vp1, qs, hp, hbw, h1, h2, hf, hlen⟩ := hrel
    have HP1 := Lib.hid hp
    have HBW := Lib.hid hbw
    have H1 := Lib.hid h1
    have H2 := Lib.hid h2
    have HF := Lib.hid hf
    have HLN := Lib.hid hlen
    have hL := label_any wr b e r1 vp1 (ps ++ qs) hp (by have := HPS.out; simp only [List.length_append]; omega)
    have hmu := Lib.hid hp.mu
    cases hl : (labT r1).1
    · have HN := Lib.hid (labT_no hl)
      rw [HN.out] at hL
      have hR2 : R = r1 := by
        rw [← h1]
        cases f with
        | zero => rfl
        | succ f => rw [labelsF_lab, if_neg (by rw [hl]; decide)]
      have hQ2 : Q = qs := by
        rw [← h2]
        cases f with
        | zero => simp [labelsF]
        | succ f => rw [labelsF_lab, if_neg (by rw [hl]; decide)]; simp
      subst hR2
      subst hQ2
      clear hp hbw h1 h2 hf hlen hl H1 H2
      go_wp2_with fail
      refine hL.mono ?_; rintro en w3 ⟨rfl, vp3, hp3, hb3⟩
      have hS3 := statement_any w3 b e R vp3 (ps ++ Q) (by simpa using hp3) (HS.out.belowB (HBW.out.trans hb3) hgb) hgb (by have := HPS.out; have := HLQ.out; simp only [List.length_append]; omega)
      have HB3 := Lib.hid (HBW.out.trans hb3)
      clear hp3 hb3
      cases hst : (stmtT R).1
      · have HZ := Lib.hid (HZN.out hst)
        go_wp2_with fail
        refine hS3.mono ?_; rintro en w4 ⟨rfl, vp4, hp4, hb4⟩
        have HP4 := Lib.hid hp4
        have HB4 := Lib.hid (HB3.out.trans hb4)
        rw [hst]
        clear hp4 hb4 hst
        try dsimp only
        go_wp2_with fail
        go_ret
        exact ⟨by rw [HZ.out]; rfl, vp4, by rw [HZ.out]; simpa only [List.append_assoc] using HP4.out, HB4.out⟩
      · have HZ := Lib.hid (HZY.out hst)
        go_wp2_with fail
        refine hS3.mono ?_; rintro en w4 ⟨rfl, vp4, hp4, hb4⟩
        have hE := lineEnd_any w4 b e _ _ _ hp4
        have HB4 := Lib.hid (HB3.out.trans hb4)
        rw [hst]
        clear hp4 hb4 hst
        try dsimp only
        go_wp2_with fail
        refine hE.mono ?_; rintro en w5 ⟨rfl, vp5, hp5, hb5⟩
        have HP5 := Lib.hid hp5
        have HB5 := Lib.hid (HB4.out.trans hb5)
        clear hp5 hb5
        go_wp2_with fail
        go_ret
        exact ⟨by rw [HZ.out]; rfl, vp5, by rw [HZ.out]; simpa only [List.append_assoc, List.append_nil] using HP5.out, HB5.out⟩
    · obtain ⟨g, rfl⟩ : ∃ g, f = g + 1 := ⟨f - 1, by have := labT_lt hl; omega⟩
      have HLT := Lib.hid (labT_lt hl)
      have hA : (labelsF g (labT r1).2.1).1 = R := by rw [← h1, labelsF_lab, if_pos hl]
      have hB : (qs ++ (labT r1).2.2) ++ (labelsF g (labT r1).2.1).2 = Q := by rw [← h2, labelsF_lab, if_pos hl, List.append_assoc]
      have HA := Lib.hid hA
      have HB := Lib.hid hB
      clear hp hbw h1 h2 hf hlen hA hB H1 H2
      go_wp2_with fail
      refine hL.mono ?_; rintro en w3 ⟨rfl, vp3, hp3, hb3⟩
      rw [List.append_assoc] at hp3
      have HP3 := Lib.hid hp3
      have HB3 := Lib.hid (HBW.out.trans hb3)
      rw [hl]
      clear hp3 hb3 hl
      go_wp2_with fail
      go_roundw
      case rel => exact ⟨g, _, vp3, _, HP3.out, HB3.out, HA.out, HB.out, by have := HLT.out; have := HF.out; omega, by have := HLT.out; have := HLN.out; simp only [List.length_append]; omega⟩
      case measure => rw [hmu.out, HP3.out.mu]; have := HLT.out; omega

set_option maxHeartbeats 2000000 in
theorem asmText_any (w : World) (b e : Nat) (r : List Tok) (vp : Value) (ps : List PartZ) (hP : Par w b e r vp ps) (hS : Shapes w) (hgb : 2 < b) (hps : ps.length + r.length ≤ 1000000) :
    Calls Tryd.prog 31 #[.pointer (some ⟨b, 0, none⟩)] w (AppOut w b e ps (textT r)) := by
  have HP := Lib.hid hP
  have HS := Lib.hid hS
  have HPS := Lib.hid hps
  obtain ⟨Z, hZ⟩ : ∃ Z, Z = textT r := ⟨_, rfl⟩
  have HZ := Lib.hid hZ
  rw [← hZ]
  clear hP hS hps hZ
  go_enter Tryd.func31, Tryd.ntmps31
  go_wp2_with fail
  go_loopw [] (fun wr => ∃ (f : Nat) (r1 : List Tok) (vp1 : Value) (qs : List PartZ), Par wr b e r1 vp1 (ps ++ qs) ∧ Below b w wr ∧ Z = ((textF f r1).1, (textF f r1).2.1, qs ++ (textF f r1).2.2) ∧ r1.length ≤ f ∧ qs.length + r1.length ≤ r.length) (fun wr => parMu b wr)
  case atStart => exact ⟨r.length, r, vp, [], by rw [List.append_nil]; exact HP.out, Below.refl _ _, HZ.out, Nat.le_refl _, by simp⟩
  case round =>
    obtain ⟨f, r1, vp1, qs, hp, hbw, hz, hf, hlen⟩ := hrel
    have HP1 := Lib.hid hp
    have HBW := Lib.hid hbw
    have HF := Lib.hid hf
    have HLN := Lib.hid hlen
    have hmu := Lib.hid hp.mu
    have hblt := hp.lt
    have z0 : ∃ A c, wr.cell? ⟨b, 0, none⟩ = some (.slice A r1.length c) := by
      obtain ⟨vt, vn, h1, h2, _⟩ := hp
      obtain ⟨A, c, rfl⟩ := h2.form
      exact ⟨A, c, h1.cell (k := 0) rfl⟩
    obtain ⟨A, c, z0⟩ := z0
    by_cases hr : r1 = []
    · subst hr
      have hz2 : Hid (Z = (true, [], qs)) := by
        show _ = _
        rw [hz]
        cases f with
        | zero => simp [textF]
        | succ f => unfold textF; simp
      simp only [List.length_nil] at z0
      clear hp hbw hz hf hlen
      go_wp2_with fail
      go_ret
      exact ⟨by rw [hz2.out]; rfl, vp1, by rw [hz2.out]; exact HP1.out, HBW.out⟩
    · have hrl : 0 < r1.length := List.length_pos_iff.2 hr
      have hL := asmLine_any wr b e r1 vp1 (ps ++ qs) hp (HS.out.belowB hbw hgb) hgb (by have := HPS.out; simp only [List.length_append]; omega)
      have q1 : decide ((0 : Int) < r1.length) = true := decide_eq_true (by omega)
      have q2 : decide (0 < r1.length) = true := decide_eq_true hrl
      obtain ⟨g, rfl⟩ : ∃ g, f = g + 1 := ⟨f - 1, by omega⟩
      have HLL := Lib.hid (lineT_len r1)
      cases hl : (lineT r1).1
      · have hz2 : Hid (Z = (false, (lineT r1).2.1, qs ++ (lineT r1).2.2)) := by
          show _ = _
          rw [hz]
          conv => lhs; unfold textF
          rw [if_neg hr, if_neg (by rw [hl]; decide), hl]
        clear hp hbw hz hf hlen
        go_wp2_with fail
        refine hL.mono ?_; rintro en w3 ⟨rfl, vp3, hp3, hb3⟩
        have HP3 := Lib.hid hp3
        have HB3 := Lib.hid (HBW.out.trans hb3)
        rw [hl]
        clear hp3 hb3 hl
        go_wp2_with fail
        go_ret
        exact ⟨by rw [hz2.out]; rfl, vp3, by rw [hz2.out]; simpa only [List.append_assoc] using HP3.out, HB3.out⟩
      · have hz2 : Hid (Z = ((textF g (lineT r1).2.1).1, (textF g (lineT r1).2.1).2.1, (qs ++ (lineT r1).2.2) ++ (textF g (lineT r1).2.1).2.2)) := by
          show _ = _
          rw [hz]
          conv => lhs; unfold textF
          rw [if_neg hr, if_pos hl]
          simp only [List.append_assoc]
        have HLT := Lib.hid (lineT_lt hl hr)
        clear hp hbw hz hf hlen
        go_wp2_with fail
        refine hL.mono ?_; rintro en w3 ⟨rfl, vp3, hp3, hb3⟩
        rw [List.append_assoc] at hp3
        have HP3 := Lib.hid hp3
        have HB3 := Lib.hid (HBW.out.trans hb3)
        rw [hl]
        clear hp3 hb3 hl
        go_wp2_with fail
        go_roundw
        case rel => exact ⟨g, _, vp3, _, HP3.out, HB3.out, hz2.out, by have := HLT.out; have := HF.out; omega, by have := HLL.out; have := HLN.out; simp only [List.length_append]; omega⟩
        case measure => rw [hmu.out, HP3.out.mu]; exact HLT.out
end Go.Proofs.YtfdegdbknponkaaDoor.Words

/- The labels of a text as a map of the call's own: what it holds, looked up and stored into. -/
namespace Go.Proofs.YtfdegdbknponkaaDoor.Words
set_option maxRecDepth 100000
open Go.RowKit Go.Shelf Go.Lib
open Go.Maps (Keyed)
set_option linter.unusedVariables false
set_option linter.unusedSimpArgs false

/-- The first label of a name: where it begins, and its place. -/
def firstL (t : List UInt8) : List PartZ → Int → Option (Int × Int)
  | [], _ => none
  | x :: xs, n => if x.kind = 1 ∧ x.name = t then some ((x.at_ : Int), n) else firstL t xs (if x.kind = 2 then n + 1 else n)
def nIns (l : List PartZ) : Nat := (l.filter (fun x => decide (x.kind = 2))).length
theorem nIns_cons (x : PartZ) (l : List PartZ) : nIns (x :: l) = (if x.kind = 2 then 1 else 0) + nIns l := by
  unfold nIns
  by_cases h : x.kind = 2
  · rw [List.filter_cons_of_pos (by simp [h]), if_pos h]; simp; omega
  · rw [List.filter_cons_of_neg (by simp [h]), if_neg h]; omega
theorem nIns_append (l m : List PartZ) : nIns (l ++ m) = nIns l + nIns m := by unfold nIns; rw [List.filter_append, List.length_append]
theorem nIns_le (l : List PartZ) : nIns l ≤ l.length := List.length_filter_le _ _
theorem firstL_cons (t : List UInt8) (x : PartZ) (xs : List PartZ) (n : Int) : firstL t (x :: xs) n = if x.kind = 1 ∧ x.name = t then some ((x.at_ : Int), n) else firstL t xs (if x.kind = 2 then n + 1 else n) := rfl
theorem firstL_append (t : List UInt8) (m : List PartZ) : ∀ (l : List PartZ) (n : Int), firstL t (l ++ m) n = match firstL t l n with | some r => some r | none => firstL t m (n + nIns l)
  | [], n => by simp [firstL, nIns]
  | x :: xs, n => by
    rw [List.cons_append, firstL_cons, firstL_cons]
    by_cases h : x.kind = 1 ∧ x.name = t
    · rw [if_pos h, if_pos h]
    · rw [if_neg h, if_neg h, firstL_append t m xs, nIns_cons]
      by_cases h2 : x.kind = 2
      · have e : n + 1 + (nIns xs : Int) = n + ((1 + nIns xs : Nat) : Int) := by omega
        rw [if_pos h2, if_pos h2, e]
      · have e : n + (nIns xs : Int) = n + ((0 + nIns xs : Nat) : Int) := by omega
        rw [if_neg h2, if_neg h2, e]
theorem firstL_place (t : List UInt8) : ∀ (l : List PartZ) (n : Int), placeF t l n = (firstL t l n).map (·.2)
  | [], n => rfl
  | x :: xs, n => by
    unfold placeF firstL
    by_cases h : x.kind = 1 ∧ x.name = t
    · rw [if_pos h, if_pos h]; rfl
    · rw [if_neg h, if_neg h]; exact firstL_place t xs _
theorem firstL_has (t : List UInt8) : ∀ (l : List PartZ) (n : Int), (firstL t l n).isSome = hasL t l
  | [], n => rfl
  | x :: xs, n => by
    have e : hasL t (x :: xs) = (decide (x.kind = 1 ∧ x.name = t) || hasL t xs) := rfl
    rw [e]
    unfold firstL
    by_cases h : x.kind = 1 ∧ x.name = t
    · rw [if_pos h, decide_eq_true h]; rfl
    · rw [if_neg h, decide_eq_false h, Bool.false_or]; exact firstL_has t xs _
theorem firstL_in {t : List UInt8} {a p : Int} : ∀ {l : List PartZ} {n : Int}, firstL t l n = some (a, p) → n ≤ p ∧ p ≤ n + nIns l ∧ ∃ x ∈ l, x.kind = 1 ∧ x.name = t ∧ (x.at_ : Int) = a
  | [], n, h => by cases h
  | x :: xs, n, h => by
    unfold firstL at h
    rw [nIns_cons]
    by_cases h1 : x.kind = 1 ∧ x.name = t
    · rw [if_pos h1] at h
      injection h with h
      injection h with h2 h3
      subst h3
      exact ⟨Int.le_refl _, by omega, x, by simp, h1.1, h1.2, h2⟩
    · rw [if_neg h1] at h
      obtain ⟨q1, q2, y, q3, q4⟩ := firstL_in h
      by_cases h2 : x.kind = 2
      · rw [if_pos h2] at q1 q2 ⊢
        exact ⟨by omega, by omega, y, List.mem_cons_of_mem _ q3, q4⟩
      · rw [if_neg h2] at q1 q2 ⊢
        exact ⟨by omega, by omega, y, List.mem_cons_of_mem _ q3, q4⟩

/-- What a label reads as. -/
abbrev labD (a p : Int) : DataW Unit := .agg [.lit (.int .i64 a), .lit (.int .i64 p)]
def labR (v : Value) : Option (DataW Unit × List MemPlace) :=
  match v with
  | .agg cs => match cs.toList with
    | [.int .i64 a, .int .i64 p] => some (labD a p, [])
    | _ => none
  | _ => none
theorem labR_mk (a p : Int) : labR (.agg #[.int .i64 a, .int .i64 p]) = some (labD a p, []) := rfl
theorem labR_inv {v : Value} {a p : Int} {ps : List MemPlace} (h : labR v = some (labD a p, ps)) : v = .agg #[.int .i64 a, .int .i64 p] := by
  unfold labR at h
  split at h
  · rename_i cs
    split at h
    · rename_i a' p' hc
      simp only [Option.some.injEq, Prod.mk.injEq, DataW.agg.injEq, List.cons.injEq, DataW.lit.injEq, Lit.int.injEq] at h
      obtain ⟨⟨⟨_, rfl⟩, ⟨_, rfl⟩, _⟩, _⟩ := h
      have := congrArg List.toArray hc
      rw [Array.toArray_toList] at this
      rw [this]
    · cases h
  · cases h
/-- Block m is the map of labels that f tells. -/
def LabM (w : World) (m n : Nat) (f : List UInt8 → Option (Int × Int)) : Prop :=
  ∃ D : DataW Unit, w.ownsMap Tryd.prog 9 labR m n D ∧ ∀ t : List UInt8, (∀ a p, f t = some (a, p) → ∀ z, D.atKey (.string t) z = labD a p) ∧ (f t = none → ∀ z, D.atKey (.string t) z = z)
theorem keyS : Keyed Tryd.prog 9 := Maps.string_keyed Tryd.underlying9
theorem keyT {t : List UInt8} (h : t.length ≤ 1000000) : keyOf Tryd.prog 9 (.string (txt t)) = some (.string t) := by
  have := WideMaps.keyOf_string_mk (P := Tryd.prog) Tryd.underlying9 (s := txt t) (by rw [txt_sz]; unfold maxLen; omega)
  rwa [txt_data] at this
theorem zeroLab (w : World) : (zeroValue 94).run Tryd.prog w = .ok (.agg #[.int .i64 0, .int .i64 0]) w := by kernel_rfl
section
variable {w w' : World} {m n : Nat} {f : List UInt8 → Option (Int × Int)}
theorem LabM.lt (h : LabM w m n f) : m < w.heap.size := by obtain ⟨D, h, _⟩ := h; exact h.lt
theorem LabM.keepS {S : Nat → Prop} (h : LabM w m n f) (hk : KeepS S w w') (hm : ¬ S m) : LabM w' m n f := by
  have hlt := h.lt
  obtain ⟨D, ⟨es, clock, hb, F, hs, hD⟩, h2⟩ := h
  exact ⟨D, ⟨es, clock, (hk.block m hlt hm).trans hb, F, hs, hD⟩, h2⟩
theorem LabM.go (h : LabM w m n f) (hb : Below w.heap.size w w') : LabM w' m n f := h.keepS (S := fun _ => False) (KeepS.of_below hb) (fun e => e)
theorem LabM.look_ok (h : LabM w m n f) {t : List UInt8} (ht : t.length ≤ 1000000) : (Instr.lookup 64 (.map (some m)) (.string (txt t)) true).run Tryd.prog w = .ok (.tuple #[.agg #[.int .i64 ((f t).getD (0, 0)).1, .int .i64 ((f t).getD (0, 0)).2], .bool (f t).isSome]) w := by
  obtain ⟨D, hown, h2⟩ := h
  obtain ⟨v, ps, hrun, hv⟩ := hown.look_ok keyS (e := 94) Tryd.underlying64 (zeroLab w) (labR_mk 0 0) (keyT ht)
  obtain ⟨q1, q2⟩ := h2 t
  cases hf : f t with
  | none =>
    have q3 := q2 hf
    rw [q3] at hv
    rw [hrun, labR_inv hv, Maps.has_false_of_atKey q3]
    rfl
  | some r =>
    obtain ⟨a, p⟩ := r
    have q3 := q1 a p hf
    rw [q3] at hv
    rw [hrun, labR_inv hv, Maps.has_true_of_atKey q3]
    rfl
theorem LabM.look (h : LabM w m n f) {t : List UInt8} (ht : t.length ≤ 1000000) : (Instr.lookup 64 (.map (some m)) (.string (txt t)) false).run Tryd.prog w = .ok (.agg #[.int .i64 ((f t).getD (0, 0)).1, .int .i64 ((f t).getD (0, 0)).2]) w := by
  obtain ⟨D, hown, h2⟩ := h
  obtain ⟨v, ps, hrun, hv⟩ := hown.lookup keyS (e := 94) Tryd.underlying64 (zeroLab w) (labR_mk 0 0) (keyT ht)
  obtain ⟨q1, q2⟩ := h2 t
  cases hf : f t with
  | none =>
    rw [q2 hf] at hv
    rw [hrun, labR_inv hv]
    rfl
  | some r =>
    obtain ⟨a, p⟩ := r
    rw [q1 a p hf] at hv
    rw [hrun, labR_inv hv]
    rfl
theorem labM_made (w : World) : LabM (w.alloc (.map #[] 0)) w.heap.size 0 (fun _ => none) :=
  ⟨.map [], World.ownsMap_made w _ _ _, fun t => ⟨fun a p h => (by cases h), fun _ z => rfl⟩⟩
theorem LabM.ext (h : LabM w m n f) {g : List UInt8 → Option (Int × Int)} (hg : ∀ t, f t = g t) : LabM w m n g := by
  obtain rfl : f = g := funext hg
  exact h
/-- A label more. -/
theorem labM_put {D : DataW Unit} {t : List UInt8} {a p : Int} {g : List UInt8 → Option (Int × Int)} (h : ∀ t : List UInt8, (∀ a p, f t = some (a, p) → ∀ z, D.atKey (.string t) z = labD a p) ∧ (f t = none → ∀ z, D.atKey (.string t) z = z))
    (hD : Maps.IsMap D) (h1 : g t = some (a, p)) (h2 : ∀ u, u ≠ t → g u = f u) (ho : w'.ownsMap Tryd.prog 9 labR m n (D.put (.string t) (labD a p))) : LabM w' m n g := by
  refine ⟨_, ho, fun u => ?_⟩
  by_cases hu : u = t
  · subst hu
    refine ⟨fun a' p' h' z => ?_, fun h' => by rw [h1] at h'; cases h'⟩
    rw [h1] at h'
    injection h' with h'
    injection h' with h3 h4
    subst h3; subst h4
    exact Maps.atKey_put_same hD (show WideAt.IsKeyLit (.string u) from trivial) _ z
  · rw [h2 u hu]
    obtain ⟨q1, q2⟩ := h u
    have hne : (Lit.string u) ≠ .string t := fun e => hu (by injection e)
    exact ⟨fun a' p' h' z => (Maps.atKey_put_other hne _ z).trans (q1 a' p' h' z), fun h' z => (Maps.atKey_put_other hne _ z).trans (q2 h' z)⟩
end
end Go.Proofs.YtfdegdbknponkaaDoor.Words

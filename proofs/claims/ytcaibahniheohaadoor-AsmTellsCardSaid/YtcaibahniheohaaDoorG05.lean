/- Several texts in one: AsmStmt, AsmLine, AsmMap, AsmLabels, IsaRight, AsmBld. -/
import Derived.Test.YtcaibahniheohaaDoorG04
import Derived.Deep.QuietTactic
import Derived.BigQuiet
import Derived.Maps.OwnSet
import Derived.Maps.OwnOps
import Derived.WalkKit
import Derived.LoopTactic

/- Contracts of package asm's statement and lineEnd. -/
namespace Go.Proofs.YtcaibahniheohaaDoor.Words
set_option maxRecDepth 100000
open Go.RowKit Go.Shelf Go.Lib
set_option linter.unusedVariables false
set_option linter.unusedSimpArgs false
theorem beq_dec (a b : List UInt8) : (a == b) = decide (a = b) := by
 by_cases h : a = b
 ·rw [decide_eq_true h]; exact beq_iff_eq.2 h
 ·rw [decide_eq_false h]; exact beq_eq_false_iff_ne.2 h
theorem txt_inj {a b : List UInt8} : txt a = txt b ↔ a = b :=
 ⟨fun h => by have := congrArg (fun s : ByteArray => s.data.toList) h; simpa using this, fun h => by rw [h]⟩
theorem op_idx (t : List UInt8) : ∀ (ns : List (List UInt8)) (i : Nat), Lib.idxFromS (ns.map txt) (txt t) i = opF t ns i - 1
 | [], i => rfl
 | n :: ns, i => by
  show (if txt n = txt t then (i : Int) else Lib.idxFromS (ns.map txt) (txt t) (i + 1)) = (if n = t then (i : Int) + 1 else opF t ns ((i : Int) + 1)) - 1
  by_cases h : n = t
  ·rw [if_pos (txt_inj.2 h), if_pos h]; omega
  ·rw [if_neg (fun e => h (txt_inj.1 e)), if_neg h, op_idx t ns (i + 1)]; rfl
theorem names_at {j : Nat} (hj : j < 41) : namesL[j]? = some (.string ((namesZ.map txt).getD j ByteArray.empty)) := by
 have h : namesZ[j]? = some namesZ[j] := List.getElem?_eq_getElem (show j < 41 from hj)
 unfold namesL
 rw [List.getElem?_map, h, List.getD_eq_getElem?_getD, List.getElem?_map, h]
 rfl
theorem index_any (t : List UInt8) (vn : Value) (B : Nat) (w : World) (hr : Row w B 1 vn 41 namesL) :
  Calls Tryd.prog 77 #[vn, .string (txt t)] w fun e w' => e = .returned (.int .i64 (opZ t - 1)) ∧ w = w' := by
 obtain ⟨A, c, rfl⟩ := hr.form
 obtain ⟨g, off, rfl, hg, hc⟩ := hr.at_ (by omega)
 refine (Tryd.slices_Index_string g off 41 c (namesZ.map txt) (txt t) w (by decide) (by omega) (fun j hj => hc j _ (names_at hj))).mono ?_
 rintro e w' ⟨rfl, rfl⟩
 refine ⟨?_, rfl⟩
 rw [show (namesZ.map txt).take 41 = namesZ.map txt from rfl]
 unfold Lib.idxOfS
 rw [op_idx t namesZ 0]
 rfl
theorem quiet_asm {P : Program} {f : FuncId} {args : Array Value} {w : World} {n : Nat} {v : Value} (h : Calls P f args (w.drewN n) fun e w' => e = .returned v ∧ w.drewN n = w') :
  Calls P f args (w.drewN n) fun e w'' => e = .returned v ∧ ∃ m, w'' = w.drewN m := h.mono fun _ _ ⟨he, hm⟩ => ⟨he, n, hm.symm⟩
theorem Shapes.belowB {w w' : World} {B : Nat} (h : Shapes w) (hb : Below B w w') (hg : 2 < B) : Shapes w' :=
 ⟨Nat.lt_of_lt_of_le h.1 hb.size, fun k t ht => below_cell hb hg (h.2 k t ht)⟩
theorem stmtT_kind {r : List Tok} (e : Nat) (h : (nextT r e).kind ≠ 1) : stmtT r = (true, r, []) := by
 cases r with
 | nil => rfl
 | cons t ts =>
  have h2 : t.kind ≠ 1 := h
  have e1 : stmtT (t :: ts) = if t.kind ≠ 1 then (true, t :: ts, []) else if 0 < opZ t.text then insT (opZ t.text) t.at_ ts else if t.text = sizeN then numT 3 ts else if t.text = byteN then bytesT ts else (false, t :: ts, []) := rfl
  rw [e1, if_pos h2]
theorem stmtT_one (t : Tok) (ts : List Tok) (h : t.kind = 1) : stmtT (t :: ts) = if 0 < opZ t.text then insT (opZ t.text) t.at_ ts else if t.text = sizeN then numT 3 ts else if t.text = byteN then bytesT ts else (false, t :: ts, []) := by
 have e1 : stmtT (t :: ts) = if t.kind ≠ 1 then (true, t :: ts, []) else if 0 < opZ t.text then insT (opZ t.text) t.at_ ts else if t.text = sizeN then numT 3 ts else if t.text = byteN then bytesT ts else (false, t :: ts, []) := rfl
 rw [e1, if_neg (fun e => e h)]
theorem AppOut.to {w X w' : World} {b e : Nat} {ps : List PartZ} {Z Z' : Bool × List Tok × List PartZ} {en : Ending} (h : AppOut X b e ps Z en w') (hb : Below b w X) (hz : Z' = Z) : AppOut w b e ps Z' en w' := by
 subst hz
 obtain ⟨h1, vp', h2, h3⟩ := h
 exact ⟨h1, vp', h2, hb.trans h3⟩
section
variable (w : World) (b e : Nat) (r : List Tok) (vp : Value) (ps : List PartZ)
set_option maxHeartbeats 4000000 in
theorem stmt_none (hP : Par w b e r vp ps) (h : (nextT r e).kind ≠ 1) :
  Calls Tryd.prog 58 #[.pointer (some ⟨b, 0, none⟩)] w (AppOut w b e ps (stmtT r)) := by
 have HP := Lib.hid hP
 have hlt := hP.lt
 have hN := next_any w b e r vp ps hP
 have HZ := Lib.hid (stmtT_kind e h)
 generalize nextT r e = t at *
 have h3 : (t.kind != 1) = true := by simpa using h
 clear hP h
 go_enter Tryd.func58, Tryd.ntmps58
 go_wp2_with fail
 refine hN.mono ?_; rintro en w1 ⟨rfl, hb1⟩
 have HB1 := Lib.hid hb1
 clear hb1
 go_wp2_with fail
 go_ret
 have hB := HB1.out.alloc HB1.out.size (.cells #[.int .i64 t.kind, .int .i64 t.num, .int .i64 (t.at_ : Int), .string (txt t.text)] 48)
 exact ⟨by rw [HZ.out]; rfl, vp, by rw [HZ.out]; simpa using HP.out.go hB, hB.mono (Nat.le_of_lt hlt)⟩
end
set_option maxHeartbeats 4000000 in
theorem stmt_ins (w : World) (b e : Nat) (t : Tok) (ts : List Tok) (vp : Value) (ps : List PartZ) (hP : Par w b e (t :: ts) vp ps) (hS : Shapes w) (hgb : 2 < b) (hps : ps.length + ts.length ≤ 1000000) (h : t.kind = 1) (hop : 0 < opZ t.text) :
  Calls Tryd.prog 58 #[.pointer (some ⟨b, 0, none⟩)] w (AppOut w b e ps (stmtT (t :: ts))) := by
 have HP := Lib.hid hP
 have HS := Lib.hid hS
 have HPS := Lib.hid hps
 have hlt := hP.lt
 have hN := next_any w b e (t :: ts) vp ps hP
 change Calls _ _ _ _ (fun en w' => en = .returned (tokV t) ∧ _) at hN
 have HZ := Lib.hid (stmtT_one t ts h)
 obtain ⟨o0, o1⟩ := opZ_range t.text
 obtain ⟨vt, vn, hbox, ht, hn, hp, htk⟩ := hP
 have z2 := hbox.cell (k := 2) rfl
 have HN := Lib.hid hn
 have h3 : (t.kind != 1) = false := by simp [h]
 have hb1s : (t.text == [115, 105, 122, 101]) = decide (t.text = sizeN) := beq_dec t.text sizeN
 have cI0 := Lib.hid (fun (y : World) (hy : Row y b 1 vn 41 namesL) => index_any t.text vn b y hy)
 have hb1b : (t.text == [98, 121, 116, 101]) = decide (t.text = byteN) := beq_dec t.text byteN
 rw [if_pos hop] at HZ
 generalize opZ t.text = op at *
 have q0 : decide (0 < op) = true := decide_eq_true hop
 clear hS hps h hbox ht hn hp htk
 go_enter Tryd.func58, Tryd.ntmps58
 go_wp2_with fail
 refine hN.mono ?_; rintro en w1 ⟨rfl, hb1⟩
 have HB1 := Lib.hid hb1
 have hlt1 := Nat.lt_of_lt_of_le hlt hb1.size
 have y2 := below_cell hb1 hlt z2
 have hB1 := hb1.alloc hb1.size (.cells #[.int .i64 t.kind, .int .i64 t.num, .int .i64 (t.at_ : Int), .string (txt t.text)] 48)
 have cI := fun n => cI0.out ((w1.alloc (.cells #[.int .i64 t.kind, .int .i64 t.num, .int .i64 (t.at_ : Int), .string (txt t.text)] 48)).drewN n) (((HN.out.below (hB1.mono (Nat.le_of_lt hlt)))).drewN n)
 have HX0 : Hid (Below b w (w1.alloc (.cells #[.int .i64 t.kind, .int .i64 t.num, .int .i64 (t.at_ : Int), .string (txt t.text)] 48))) := hB1.mono (Nat.le_of_lt hlt)
 have HP1 : Hid (Par (w1.alloc (.cells #[.int .i64 t.kind, .int .i64 t.num, .int .i64 (t.at_ : Int), .string (txt t.text)] 48)) b e (t :: ts) vp ps) := HP.out.go hB1
 clear hb1 z2 hB1
 go_wp2_with fail
 go_quiet ((go_at_call 77; refine quiet_asm (cI _)))
 go_wp2_with fail
 refine (skip_any _ _ _ _ _ _ _ (HP1.out.drewN _)).mono ?_; rintro en w3 ⟨rfl, hp3, hk3⟩
 have hlx := HP1.out.lt
 have HP3 := Lib.hid hp3
 have HX3 : Hid (Below b w w3) := (HX0.out.trans (Below.drewN_ (Below.refl _ _) _)).trans (hk3.below (Nat.le_of_lt hlx) (fun j hj => by omega))
 have HTA : Hid (w3.cell? ⟨w1.heap.size, 2, none⟩ = some (.int .i64 (t.at_ : Int))) := hk3.cell (by show w1.heap.size < (w1.alloc _).heap.size; simp) (fun e => by omega) (by show (w1.alloc _).cell? _ = _; go_simp)
 have hsz3 : w1.heap.size < w3.heap.size := by have := hk3.size; have h2 : (w1.alloc (.cells #[.int .i64 t.kind, .int .i64 t.num, .int .i64 (t.at_ : Int), .string (txt t.text)] 48)).heap.size = w1.heap.size + 1 := (by simp); have h3 : w1.heap.size + 1 ≤ w3.heap.size := Nat.le_trans (Nat.le_of_eq h2.symm) this; omega
 have a2 := HTA.out
 clear hp3 hk3
 go_wp2_with fail
 refine (instruction_any op t.at_ w3 b e ts vp ps HP3.out (HS.out.belowB HX3.out hgb) hgb HPS.out).mono ?_
 rintro en w4 hA
 have HA := Lib.hid hA
 obtain ⟨rfl, _⟩ := hA
 go_wp2_with fail
 go_ret
 exact HA.out.to HX3.out HZ.out
set_option maxHeartbeats 4000000 in
theorem stmt_size (w : World) (b e : Nat) (t : Tok) (ts : List Tok) (vp : Value) (ps : List PartZ) (hP : Par w b e (t :: ts) vp ps) (hS : Shapes w) (hgb : 2 < b) (hps : ps.length + ts.length ≤ 1000000) (h : t.kind = 1) (hop : ¬ 0 < opZ t.text) (htx : t.text = sizeN) :
  Calls Tryd.prog 58 #[.pointer (some ⟨b, 0, none⟩)] w (AppOut w b e ps (stmtT (t :: ts))) := by
 have HP := Lib.hid hP
 have HS := Lib.hid hS
 have HPS := Lib.hid hps
 have hlt := hP.lt
 have hN := next_any w b e (t :: ts) vp ps hP
 change Calls _ _ _ _ (fun en w' => en = .returned (tokV t) ∧ _) at hN
 have HZ := Lib.hid (stmtT_one t ts h)
 obtain ⟨o0, o1⟩ := opZ_range t.text
 obtain ⟨vt, vn, hbox, ht, hn, hp, htk⟩ := hP
 have z2 := hbox.cell (k := 2) rfl
 have HN := Lib.hid hn
 have h3 : (t.kind != 1) = false := by simp [h]
 have hb1s : (t.text == [115, 105, 122, 101]) = decide (t.text = sizeN) := beq_dec t.text sizeN
 have cI0 := Lib.hid (fun (y : World) (hy : Row y b 1 vn 41 namesL) => index_any t.text vn b y hy)
 have hb1b : (t.text == [98, 121, 116, 101]) = decide (t.text = byteN) := beq_dec t.text byteN
 rw [if_neg hop, if_pos htx] at HZ
 generalize opZ t.text = op at *
 have q0 : decide (0 < op) = false := decide_eq_false hop
 rw [decide_eq_true htx] at hb1s
 clear hb1b htx
 clear hS hps h hbox ht hn hp htk
 go_enter Tryd.func58, Tryd.ntmps58
 go_wp2_with fail
 refine hN.mono ?_; rintro en w1 ⟨rfl, hb1⟩
 have HB1 := Lib.hid hb1
 have hlt1 := Nat.lt_of_lt_of_le hlt hb1.size
 have y2 := below_cell hb1 hlt z2
 have hB1 := hb1.alloc hb1.size (.cells #[.int .i64 t.kind, .int .i64 t.num, .int .i64 (t.at_ : Int), .string (txt t.text)] 48)
 have cI := fun n => cI0.out ((w1.alloc (.cells #[.int .i64 t.kind, .int .i64 t.num, .int .i64 (t.at_ : Int), .string (txt t.text)] 48)).drewN n) (((HN.out.below (hB1.mono (Nat.le_of_lt hlt)))).drewN n)
 have HX0 : Hid (Below b w (w1.alloc (.cells #[.int .i64 t.kind, .int .i64 t.num, .int .i64 (t.at_ : Int), .string (txt t.text)] 48))) := hB1.mono (Nat.le_of_lt hlt)
 have HP1 : Hid (Par (w1.alloc (.cells #[.int .i64 t.kind, .int .i64 t.num, .int .i64 (t.at_ : Int), .string (txt t.text)] 48)) b e (t :: ts) vp ps) := HP.out.go hB1
 clear hb1 z2 hB1
 go_wp2_with fail
 go_quiet ((go_at_call 77; refine quiet_asm (cI _)))
 go_wp2_with fail
 refine (skip_any _ _ _ _ _ _ _ (HP1.out.drewN _)).mono ?_; rintro en w3 ⟨rfl, hp3, hk3⟩
 have hlx := HP1.out.lt
 have HP3 := Lib.hid hp3
 have HX3 : Hid (Below b w w3) := (HX0.out.trans (Below.drewN_ (Below.refl _ _) _)).trans (hk3.below (Nat.le_of_lt hlx) (fun j hj => by omega))
 have HTA : Hid (w3.cell? ⟨w1.heap.size, 2, none⟩ = some (.int .i64 (t.at_ : Int))) := hk3.cell (by show w1.heap.size < (w1.alloc _).heap.size; simp) (fun e => by omega) (by show (w1.alloc _).cell? _ = _; go_simp)
 have hsz3 : w1.heap.size < w3.heap.size := by have := hk3.size; have h2 : (w1.alloc (.cells #[.int .i64 t.kind, .int .i64 t.num, .int .i64 (t.at_ : Int), .string (txt t.text)] 48)).heap.size = w1.heap.size + 1 := (by simp); have h3 : w1.heap.size + 1 ≤ w3.heap.size := Nat.le_trans (Nat.le_of_eq h2.symm) this; omega
 have a2 := HTA.out
 clear hp3 hk3
 go_wp2_with fail
 refine (asmNumber_any 3 w3 b e ts vp ps HP3.out (by have := HPS.out; omega)).mono ?_
 rintro en w4 hA
 have HA := Lib.hid hA
 obtain ⟨rfl, _⟩ := hA
 go_wp2_with fail
 go_ret
 exact HA.out.to HX3.out HZ.out
set_option maxHeartbeats 4000000 in
theorem stmt_byte (w : World) (b e : Nat) (t : Tok) (ts : List Tok) (vp : Value) (ps : List PartZ) (hP : Par w b e (t :: ts) vp ps) (hS : Shapes w) (hgb : 2 < b) (hps : ps.length + ts.length ≤ 1000000) (h : t.kind = 1) (hop : ¬ 0 < opZ t.text) (htx : t.text ≠ sizeN) (htb : t.text = byteN) :
  Calls Tryd.prog 58 #[.pointer (some ⟨b, 0, none⟩)] w (AppOut w b e ps (stmtT (t :: ts))) := by
 have HP := Lib.hid hP
 have HS := Lib.hid hS
 have HPS := Lib.hid hps
 have hlt := hP.lt
 have hN := next_any w b e (t :: ts) vp ps hP
 change Calls _ _ _ _ (fun en w' => en = .returned (tokV t) ∧ _) at hN
 have HZ := Lib.hid (stmtT_one t ts h)
 obtain ⟨o0, o1⟩ := opZ_range t.text
 obtain ⟨vt, vn, hbox, ht, hn, hp, htk⟩ := hP
 have z2 := hbox.cell (k := 2) rfl
 have HN := Lib.hid hn
 have h3 : (t.kind != 1) = false := by simp [h]
 have hb1s : (t.text == [115, 105, 122, 101]) = decide (t.text = sizeN) := beq_dec t.text sizeN
 have cI0 := Lib.hid (fun (y : World) (hy : Row y b 1 vn 41 namesL) => index_any t.text vn b y hy)
 have hb1b : (t.text == [98, 121, 116, 101]) = decide (t.text = byteN) := beq_dec t.text byteN
 rw [if_neg hop, if_neg htx, if_pos htb] at HZ
 generalize opZ t.text = op at *
 have q0 : decide (0 < op) = false := decide_eq_false hop
 rw [decide_eq_false htx] at hb1s
 rw [decide_eq_true htb] at hb1b
 clear htx htb
 clear hS hps h hbox ht hn hp htk
 go_enter Tryd.func58, Tryd.ntmps58
 go_wp2_with fail
 refine hN.mono ?_; rintro en w1 ⟨rfl, hb1⟩
 have HB1 := Lib.hid hb1
 have hlt1 := Nat.lt_of_lt_of_le hlt hb1.size
 have y2 := below_cell hb1 hlt z2
 have hB1 := hb1.alloc hb1.size (.cells #[.int .i64 t.kind, .int .i64 t.num, .int .i64 (t.at_ : Int), .string (txt t.text)] 48)
 have cI := fun n => cI0.out ((w1.alloc (.cells #[.int .i64 t.kind, .int .i64 t.num, .int .i64 (t.at_ : Int), .string (txt t.text)] 48)).drewN n) (((HN.out.below (hB1.mono (Nat.le_of_lt hlt)))).drewN n)
 have HX0 : Hid (Below b w (w1.alloc (.cells #[.int .i64 t.kind, .int .i64 t.num, .int .i64 (t.at_ : Int), .string (txt t.text)] 48))) := hB1.mono (Nat.le_of_lt hlt)
 have HP1 : Hid (Par (w1.alloc (.cells #[.int .i64 t.kind, .int .i64 t.num, .int .i64 (t.at_ : Int), .string (txt t.text)] 48)) b e (t :: ts) vp ps) := HP.out.go hB1
 clear hb1 z2 hB1
 go_wp2_with fail
 go_quiet ((go_at_call 77; refine quiet_asm (cI _)))
 go_wp2_with fail
 refine (skip_any _ _ _ _ _ _ _ (HP1.out.drewN _)).mono ?_; rintro en w3 ⟨rfl, hp3, hk3⟩
 have hlx := HP1.out.lt
 have HP3 := Lib.hid hp3
 have HX3 : Hid (Below b w w3) := (HX0.out.trans (Below.drewN_ (Below.refl _ _) _)).trans (hk3.below (Nat.le_of_lt hlx) (fun j hj => by omega))
 have HTA : Hid (w3.cell? ⟨w1.heap.size, 2, none⟩ = some (.int .i64 (t.at_ : Int))) := hk3.cell (by show w1.heap.size < (w1.alloc _).heap.size; simp) (fun e => by omega) (by show (w1.alloc _).cell? _ = _; go_simp)
 have hsz3 : w1.heap.size < w3.heap.size := by have := hk3.size; have h2 : (w1.alloc (.cells #[.int .i64 t.kind, .int .i64 t.num, .int .i64 (t.at_ : Int), .string (txt t.text)] 48)).heap.size = w1.heap.size + 1 := (by simp); have h3 : w1.heap.size + 1 ≤ w3.heap.size := Nat.le_trans (Nat.le_of_eq h2.symm) this; omega
 have a2 := HTA.out
 clear hp3 hk3
 go_wp2_with fail
 refine (byteList_any w3 b e ts vp ps HP3.out HPS.out).mono ?_
 rintro en w4 hA
 have HA := Lib.hid hA
 obtain ⟨rfl, _⟩ := hA
 go_wp2_with fail
 go_ret
 exact HA.out.to HX3.out HZ.out
set_option maxHeartbeats 4000000 in
theorem stmt_other (w : World) (b e : Nat) (t : Tok) (ts : List Tok) (vp : Value) (ps : List PartZ) (hP : Par w b e (t :: ts) vp ps) (hS : Shapes w) (hgb : 2 < b) (hps : ps.length + ts.length ≤ 1000000) (h : t.kind = 1) (hop : ¬ 0 < opZ t.text) (htx : t.text ≠ sizeN) (htb : t.text ≠ byteN) :
  Calls Tryd.prog 58 #[.pointer (some ⟨b, 0, none⟩)] w (AppOut w b e ps (stmtT (t :: ts))) := by
 have HP := Lib.hid hP
 have HS := Lib.hid hS
 have HPS := Lib.hid hps
 have hlt := hP.lt
 have hN := next_any w b e (t :: ts) vp ps hP
 change Calls _ _ _ _ (fun en w' => en = .returned (tokV t) ∧ _) at hN
 have HZ := Lib.hid (stmtT_one t ts h)
 obtain ⟨o0, o1⟩ := opZ_range t.text
 obtain ⟨vt, vn, hbox, ht, hn, hp, htk⟩ := hP
 have z2 := hbox.cell (k := 2) rfl
 have HN := Lib.hid hn
 have h3 : (t.kind != 1) = false := by simp [h]
 have hb1s : (t.text == [115, 105, 122, 101]) = decide (t.text = sizeN) := beq_dec t.text sizeN
 have cI0 := Lib.hid (fun (y : World) (hy : Row y b 1 vn 41 namesL) => index_any t.text vn b y hy)
 have hb1b : (t.text == [98, 121, 116, 101]) = decide (t.text = byteN) := beq_dec t.text byteN
 rw [if_neg hop, if_neg htx, if_neg htb] at HZ
 generalize opZ t.text = op at *
 have q0 : decide (0 < op) = false := decide_eq_false hop
 rw [decide_eq_false htx] at hb1s
 rw [decide_eq_false htb] at hb1b
 clear htx htb
 clear hS hps h hbox ht hn hp htk
 go_enter Tryd.func58, Tryd.ntmps58
 go_wp2_with fail
 refine hN.mono ?_; rintro en w1 ⟨rfl, hb1⟩
 have HB1 := Lib.hid hb1
 have hlt1 := Nat.lt_of_lt_of_le hlt hb1.size
 have y2 := below_cell hb1 hlt z2
 have hB1 := hb1.alloc hb1.size (.cells #[.int .i64 t.kind, .int .i64 t.num, .int .i64 (t.at_ : Int), .string (txt t.text)] 48)
 have cI := fun n => cI0.out ((w1.alloc (.cells #[.int .i64 t.kind, .int .i64 t.num, .int .i64 (t.at_ : Int), .string (txt t.text)] 48)).drewN n) (((HN.out.below (hB1.mono (Nat.le_of_lt hlt)))).drewN n)
 have HX0 : Hid (Below b w (w1.alloc (.cells #[.int .i64 t.kind, .int .i64 t.num, .int .i64 (t.at_ : Int), .string (txt t.text)] 48))) := hB1.mono (Nat.le_of_lt hlt)
 have HP1 : Hid (Par (w1.alloc (.cells #[.int .i64 t.kind, .int .i64 t.num, .int .i64 (t.at_ : Int), .string (txt t.text)] 48)) b e (t :: ts) vp ps) := HP.out.go hB1
 clear hb1 z2 hB1
 go_wp2_with fail
 go_quiet ((go_at_call 77; refine quiet_asm (cI _)))
 go_wp2_with fail
 go_ret
 exact ⟨by rw [HZ.out]; rfl, vp, by rw [HZ.out]; simpa using HP1.out.drewN _, HX0.out.trans (Below.drewN_ (Below.refl _ _) _)⟩
theorem statement_any (w : World) (b e : Nat) (r : List Tok) (vp : Value) (ps : List PartZ) (hP : Par w b e r vp ps) (hS : Shapes w) (hgb : 2 < b) (hps : ps.length + r.length ≤ 1000000) :
  Calls Tryd.prog 58 #[.pointer (some ⟨b, 0, none⟩)] w (AppOut w b e ps (stmtT r)) := by
 by_cases hk : (nextT r e).kind = 1
 ·rcases r with _ | ⟨t, ts⟩
  ·exact absurd hk (by simp [nextT])
  ·have hk2 : t.kind = 1 := hk
   have hps2 : ps.length + ts.length ≤ 1000000 := by simp at hps; omega
   by_cases hop : 0 < opZ t.text
   ·exact stmt_ins w b e t ts vp ps hP hS hgb hps2 hk2 hop
   by_cases htx : t.text = sizeN
   ·exact stmt_size w b e t ts vp ps hP hS hgb hps2 hk2 hop htx
   by_cases htb : t.text = byteN
   ·exact stmt_byte w b e t ts vp ps hP hS hgb hps2 hk2 hop htx htb
   ·exact stmt_other w b e t ts vp ps hP hS hgb hps2 hk2 hop htx htb
 ·exact stmt_none w b e r vp ps hP hk
end Go.Proofs.YtcaibahniheohaaDoor.Words

/- Contracts of package asm's lineEnd, line and text. -/
namespace Go.Proofs.YtcaibahniheohaaDoor.Words
set_option maxRecDepth 100000
open Go.RowKit Go.Shelf Go.Lib
set_option linter.unusedVariables false
set_option linter.unusedSimpArgs false
theorem labelsF_lab : ∀ f r, labelsF (f + 1) r = if (labT r).1 = true then ((labelsF f (labT r).2.1).1, (labT r).2.2 ++ (labelsF f (labT r).2.1).2) else (r, []) := by
 intro f r
 conv => lhs; unfold labelsF
 unfold labT
 cases labelT r with
 | none => rfl
 | some x => obtain ⟨p, ts⟩ := x; rfl
theorem labT_lt {r : List Tok} (h : (labT r).1 = true) : (labT r).2.2.length + (labT r).2.1.length < r.length := by
 rcases r with _ | ⟨t, _ | ⟨c, ts⟩⟩
 ·cases h
 ·cases h
 ·rw [labT_two] at h ⊢
  split
  ·simp; omega
  ·rename_i hh; rw [if_neg hh] at h; cases h
theorem labT_no {r : List Tok} (h : (labT r).1 = false) : labT r = (false, r, []) := by
 rcases r with _ | ⟨t, _ | ⟨c, ts⟩⟩
 ·rfl
 ·rfl
 ·rw [labT_two] at h ⊢
  split
  ·rename_i hh; rw [if_pos hh] at h; cases h
  ·rfl
theorem labelsF_len : ∀ f r, (labelsF f r).2.length + (labelsF f r).1.length ≤ r.length
 | 0, r => by simp [labelsF]
 | f + 1, r => by
  rw [labelsF_lab]
  split
  ·rename_i h
   have h1 := labT_lt h
   have h2 := labelsF_len f (labT r).2.1
   simp only [List.length_append]
   omega
  ·simp
theorem insT_len2 (op : Int) (at_ : Nat) (r : List Tok) : (insT op at_ r).2.2.length + (insT op at_ r).2.1.length ≤ r.length + 1 := by
 have := fieldsT_len (shapeZ op) ⟨2, at_, 0, [], ⟨op, 0, 0, 0, 0⟩, tok0⟩ r
 unfold insT
 split
 ·simp only [List.length_cons, List.length_nil]; omega
 ·simp only [List.length_nil]; omega
theorem stmtT_len (r : List Tok) : (stmtT r).2.2.length + (stmtT r).2.1.length ≤ r.length := by
 cases r with
 | nil => exact Nat.le_refl _
 | cons t ts =>
  by_cases h : t.kind = 1
  ·rw [stmtT_one t ts h]
   have h1 := insT_len2 (opZ t.text) t.at_ ts
   have h2 := numT_len 3 ts
   have h3 := bytesT_len ts
   simp only [List.length_cons]
   split
   ·omega
   split
   ·omega
   split
   ·omega
   ·simp
  ·rw [stmtT_kind 0 (show (nextT (t :: ts) 0).kind ≠ 1 from h)]; simp
theorem endT_len (r : List Tok) : (endT r).2.length ≤ r.length := by
 cases r with
 | nil => exact Nat.le_refl _
 | cons t ts =>
  have h : endT (t :: ts) = if t.kind = 4 then (true, ts) else (false, t :: ts) := rfl
  rw [h]; split <;> simp
theorem lineT_len (r : List Tok) : (lineT r).2.2.length + (lineT r).2.1.length ≤ r.length := by
 have h1 := labelsF_len r.length r
 have h2 := stmtT_len (labelsF r.length r).1
 have h3 := endT_len (stmtT (labelsF r.length r).1).2.1
 unfold lineT
 split
 ·simp only [List.length_append]; omega
 ·simp only [List.length_append]; omega
theorem endT_true {r : List Tok} (h : (endT r).1 = true) : (endT r).2 = [] ∨ (endT r).2.length < r.length := by
 cases r with
 | nil => exact .inl rfl
 | cons t ts =>
  have h1 : endT (t :: ts) = if t.kind = 4 then (true, ts) else (false, t :: ts) := rfl
  rw [h1] at h ⊢
  by_cases hk : t.kind = 4
  ·rw [if_pos hk]; right; simp
  ·rw [if_neg hk] at h; cases h
theorem lineT_lt {r : List Tok} (h : (lineT r).1 = true) (hr : r ≠ []) : (lineT r).2.1.length < r.length := by
 have h1 := labelsF_len r.length r
 have h2 := stmtT_len (labelsF r.length r).1
 have hp : 0 < r.length := List.length_pos_iff.2 hr
 unfold lineT at h ⊢
 split
 ·rename_i hs
  rw [if_pos hs] at h
  rcases endT_true h with h3 | h3
  ·simp only [h3, List.length_nil]; exact hp
  ·simp only; omega
 ·rename_i hs
  rw [if_neg hs] at h; cases h
set_option maxHeartbeats 2000000 in
theorem lineEnd_any (w : World) (b e : Nat) (r : List Tok) (vp : Value) (ps : List PartZ) (hP : Par w b e r vp ps) :
  Calls Tryd.prog 59 #[.pointer (some ⟨b, 0, none⟩)] w (AppOut w b e ps ((endT r).1, (endT r).2, [])) := by
 have HP := Lib.hid hP
 have hlt := hP.lt
 have hN := next_any w b e r vp ps hP
 have fd := field_kind (nextT r e)
 cases r with
 | nil =>
  obtain ⟨vt, vn, hbox, ht, hn, hp, htk⟩ := hP
  obtain ⟨A, c, rfl⟩ := ht.form
  have z0 := hbox.cell (k := 0) rfl
  have hk : ((nextT [] e).kind == 4) = false := rfl
  generalize nextT [] e = t at *
  clear hbox ht hn hp htk
  go_enter Tryd.func59, Tryd.ntmps59
  go_wp2_with fail
  refine hN.mono ?_; rintro en w1 ⟨rfl, hb1⟩
  have HB1 := Lib.hid hb1
  have z1 := below_cell hb1 hlt z0
  clear hb1 z0
  go_wp2_with fail
  go_ret
  exact ⟨rfl, vp, by rw [show (endT []).2 = [] from rfl, List.append_nil]; exact HP.out.go HB1.out, HB1.out.mono (Nat.le_of_lt hlt)⟩
 | cons t ts =>
  change Calls _ _ _ _ (fun en w' => en = .returned (tokV t) ∧ _) at hN
  change ∀ y, (Instr.field _ (tokV t) 0).run _ y = .ok (.int .i64 t.kind) y at fd
  have h1 : endT (t :: ts) = if t.kind = 4 then (true, ts) else (false, t :: ts) := rfl
  by_cases hk : t.kind = 4
  ·rw [if_pos hk] at h1
   have H1 := Lib.hid h1
   have hk2 : (t.kind == 4) = true := by simpa using hk
   clear hP h1 hk
   go_enter Tryd.func59, Tryd.ntmps59
   go_wp2_with fail
   refine hN.mono ?_; rintro en w1 ⟨rfl, hb1⟩
   have HB1 := Lib.hid hb1
   clear hb1
   go_wp2_with fail
   refine (skip_any _ _ _ _ _ _ _ (HP.out.go HB1.out)).mono ?_; rintro en w3 ⟨rfl, hp3, hk3⟩
   have HP3 := Lib.hid hp3
   have HB3 := Lib.hid ((HB1.out.mono (Nat.le_of_lt hlt)).trans (hk3.below (Nat.le_trans (Nat.le_of_lt hlt) HB1.out.size) (fun j hj => by omega)))
   clear hp3 hk3
   go_wp2_with fail
   go_ret
   exact ⟨by rw [H1.out]; rfl, vp, by rw [H1.out]; simpa using HP3.out, HB3.out⟩
  ·rw [if_neg hk] at h1
   have H1 := Lib.hid h1
   have hk2 : (t.kind == 4) = false := by simpa using hk
   obtain ⟨vt, vn, hbox, ht, hn, hp, htk⟩ := hP
   obtain ⟨A, c, rfl⟩ := ht.form
   have z0 := hbox.cell (k := 0) rfl
   simp only [List.length_cons] at z0
   have l1 : ((ts.length : Int) + 1 == 0) = false := by simp; omega
   clear h1 hk hbox ht hn hp htk
   go_enter Tryd.func59, Tryd.ntmps59
   go_wp2_with fail
   refine hN.mono ?_; rintro en w1 ⟨rfl, hb1⟩
   have HB1 := Lib.hid hb1
   have z1 := below_cell hb1 hlt z0
   clear hb1 z0
   go_wp2_with fail
   go_ret
   exact ⟨by rw [H1.out]; rfl, vp, by rw [H1.out]; simpa using HP.out.go HB1.out, HB1.out.mono (Nat.le_of_lt hlt)⟩
set_option maxHeartbeats 2000000 in
theorem asmLine_any (w : World) (b e : Nat) (r : List Tok) (vp : Value) (ps : List PartZ) (hP : Par w b e r vp ps) (hS : Shapes w) (hgb : 2 < b) (hps : ps.length + r.length ≤ 1000000) :
  Calls Tryd.prog 30 #[.pointer (some ⟨b, 0, none⟩)] w (AppOut w b e ps (lineT r)) := by
 have HP := Lib.hid hP
 have HS := Lib.hid hS
 have HPS := Lib.hid hps
 obtain ⟨R, hR⟩ : ∃ R, R = (labelsF r.length r).1 := ⟨_, rfl⟩
 obtain ⟨Q, hQ⟩ : ∃ Q, Q = (labelsF r.length r).2 := ⟨_, rfl⟩
 have HR := Lib.hid hR
 have HQ := Lib.hid hQ
 have HLQ : Hid (Q.length + R.length ≤ r.length) := by rw [hR, hQ]; exact labelsF_len _ _
 have HZN : Hid ((stmtT R).1 = false → lineT r = (false, (stmtT R).2.1, Q ++ (stmtT R).2.2)) := by
  intro h; unfold lineT; rw [← hR, ← hQ, if_neg (by rw [h]; decide)]
 have HZY : Hid ((stmtT R).1 = true → lineT r = ((endT (stmtT R).2.1).1, (endT (stmtT R).2.1).2, Q ++ (stmtT R).2.2)) := by
  intro h; unfold lineT; rw [← hR, ← hQ, if_pos h]
 clear hP hS hps hR hQ
 go_enter Tryd.func30, Tryd.ntmps30
 go_wp2_with fail
 go_loopw [] (fun wr => ∃ (f : Nat) (r1 : List Tok) (vp1 : Value) (qs : List PartZ), Par wr b e r1 vp1 (ps ++ qs) ∧ Below b w wr ∧ (labelsF f r1).1 = R ∧ qs ++ (labelsF f r1).2 = Q ∧ r1.length ≤ f ∧ qs.length + r1.length ≤ r.length) (fun wr => parMu b wr)
 case atStart => exact ⟨r.length, r, vp, [], by rw [List.append_nil]; exact HP.out, Below.refl _ _, HR.out.symm, by rw [List.nil_append]; exact HQ.out.symm, Nat.le_refl _, by simp⟩
 case round =>
  obtain ⟨f, r1, vp1, qs, hp, hbw, h1, h2, hf, hlen⟩ := hrel
  have HP1 := Lib.hid hp
  have HBW := Lib.hid hbw
  have H1 := Lib.hid h1
  have H2 := Lib.hid h2
  have HF := Lib.hid hf
  have HLN := Lib.hid hlen
  have hL := label_any wr b e r1 vp1 (ps ++ qs) hp (by have := HPS.out; simp only [List.length_append]; omega)
  have hmu := Lib.hid hp.mu
  cases hl : (labT r1).1
  ·have HN := Lib.hid (labT_no hl)
   rw [HN.out] at hL
   have hR2 : R = r1 := by
    rw [← h1]
    cases f with
    | zero => rfl
    | succ f => rw [labelsF_lab, if_neg (by rw [hl]; decide)]
   have hQ2 : Q = qs := by
    rw [← h2]
    cases f with
    | zero => simp [labelsF]
    | succ f => rw [labelsF_lab, if_neg (by rw [hl]; decide)]; simp
   subst hR2
   subst hQ2
   clear hp hbw h1 h2 hf hlen hl H1 H2
   go_wp2_with fail
   refine hL.mono ?_; rintro en w3 ⟨rfl, vp3, hp3, hb3⟩
   have hS3 := statement_any w3 b e R vp3 (ps ++ Q) (by simpa using hp3) (HS.out.belowB (HBW.out.trans hb3) hgb) hgb (by have := HPS.out; have := HLQ.out; simp only [List.length_append]; omega)
   have HB3 := Lib.hid (HBW.out.trans hb3)
   clear hp3 hb3
   cases hst : (stmtT R).1
   ·have HZ := Lib.hid (HZN.out hst)
    go_wp2_with fail
    refine hS3.mono ?_; rintro en w4 ⟨rfl, vp4, hp4, hb4⟩
    have HP4 := Lib.hid hp4
    have HB4 := Lib.hid (HB3.out.trans hb4)
    rw [hst]
    clear hp4 hb4 hst
    try dsimp only
    go_wp2_with fail
    go_ret
    exact ⟨by rw [HZ.out]; rfl, vp4, by rw [HZ.out]; simpa only [List.append_assoc] using HP4.out, HB4.out⟩
   ·have HZ := Lib.hid (HZY.out hst)
    go_wp2_with fail
    refine hS3.mono ?_; rintro en w4 ⟨rfl, vp4, hp4, hb4⟩
    have hE := lineEnd_any w4 b e _ _ _ hp4
    have HB4 := Lib.hid (HB3.out.trans hb4)
    rw [hst]
    clear hp4 hb4 hst
    try dsimp only
    go_wp2_with fail
    refine hE.mono ?_; rintro en w5 ⟨rfl, vp5, hp5, hb5⟩
    have HP5 := Lib.hid hp5
    have HB5 := Lib.hid (HB4.out.trans hb5)
    clear hp5 hb5
    go_wp2_with fail
    go_ret
    exact ⟨by rw [HZ.out]; rfl, vp5, by rw [HZ.out]; simpa only [List.append_assoc, List.append_nil] using HP5.out, HB5.out⟩
  ·obtain ⟨g, rfl⟩ : ∃ g, f = g + 1 := ⟨f - 1, by have := labT_lt hl; omega⟩
   have HLT := Lib.hid (labT_lt hl)
   have hA : (labelsF g (labT r1).2.1).1 = R := by rw [← h1, labelsF_lab, if_pos hl]
   have hB : (qs ++ (labT r1).2.2) ++ (labelsF g (labT r1).2.1).2 = Q := by rw [← h2, labelsF_lab, if_pos hl, List.append_assoc]
   have HA := Lib.hid hA
   have HB := Lib.hid hB
   clear hp hbw h1 h2 hf hlen hA hB H1 H2
   go_wp2_with fail
   refine hL.mono ?_; rintro en w3 ⟨rfl, vp3, hp3, hb3⟩
   rw [List.append_assoc] at hp3
   have HP3 := Lib.hid hp3
   have HB3 := Lib.hid (HBW.out.trans hb3)
   rw [hl]
   clear hp3 hb3 hl
   go_wp2_with fail
   go_roundw
   case rel => exact ⟨g, _, vp3, _, HP3.out, HB3.out, HA.out, HB.out, by have := HLT.out; have := HF.out; omega, by have := HLT.out; have := HLN.out; simp only [List.length_append]; omega⟩
   case measure => rw [hmu.out, HP3.out.mu]; have := HLT.out; omega
set_option maxHeartbeats 2000000 in
theorem asmText_any (w : World) (b e : Nat) (r : List Tok) (vp : Value) (ps : List PartZ) (hP : Par w b e r vp ps) (hS : Shapes w) (hgb : 2 < b) (hps : ps.length + r.length ≤ 1000000) :
  Calls Tryd.prog 16 #[.pointer (some ⟨b, 0, none⟩)] w (AppOut w b e ps (textT r)) := by
 have HP := Lib.hid hP
 have HS := Lib.hid hS
 have HPS := Lib.hid hps
 obtain ⟨Z, hZ⟩ : ∃ Z, Z = textT r := ⟨_, rfl⟩
 have HZ := Lib.hid hZ
 rw [← hZ]
 clear hP hS hps hZ
 go_enter Tryd.func16, Tryd.ntmps16
 go_wp2_with fail
 go_loopw [] (fun wr => ∃ (f : Nat) (r1 : List Tok) (vp1 : Value) (qs : List PartZ), Par wr b e r1 vp1 (ps ++ qs) ∧ Below b w wr ∧ Z = ((textF f r1).1, (textF f r1).2.1, qs ++ (textF f r1).2.2) ∧ r1.length ≤ f ∧ qs.length + r1.length ≤ r.length) (fun wr => parMu b wr)
 case atStart => exact ⟨r.length, r, vp, [], by rw [List.append_nil]; exact HP.out, Below.refl _ _, HZ.out, Nat.le_refl _, by simp⟩
 case round =>
  obtain ⟨f, r1, vp1, qs, hp, hbw, hz, hf, hlen⟩ := hrel
  have HP1 := Lib.hid hp
  have HBW := Lib.hid hbw
  have HF := Lib.hid hf
  have HLN := Lib.hid hlen
  have hmu := Lib.hid hp.mu
  have hblt := hp.lt
  have z0 : ∃ A c, wr.cell? ⟨b, 0, none⟩ = some (.slice A r1.length c) := by
   obtain ⟨vt, vn, h1, h2, _⟩ := hp
   obtain ⟨A, c, rfl⟩ := h2.form
   exact ⟨A, c, h1.cell (k := 0) rfl⟩
  obtain ⟨A, c, z0⟩ := z0
  by_cases hr : r1 = []
  ·subst hr
   have hz2 : Hid (Z = (true, [], qs)) := by
    show _ = _
    rw [hz]
    cases f with
    | zero => simp [textF]
    | succ f => unfold textF; simp
   simp only [List.length_nil] at z0
   clear hp hbw hz hf hlen
   go_wp2_with fail
   go_ret
   exact ⟨by rw [hz2.out]; rfl, vp1, by rw [hz2.out]; exact HP1.out, HBW.out⟩
  ·have hrl : 0 < r1.length := List.length_pos_iff.2 hr
   have hL := asmLine_any wr b e r1 vp1 (ps ++ qs) hp (HS.out.belowB hbw hgb) hgb (by have := HPS.out; simp only [List.length_append]; omega)
   have q1 : decide ((0 : Int) < r1.length) = true := decide_eq_true (by omega)
   have q2 : decide (0 < r1.length) = true := decide_eq_true hrl
   obtain ⟨g, rfl⟩ : ∃ g, f = g + 1 := ⟨f - 1, by omega⟩
   have HLL := Lib.hid (lineT_len r1)
   cases hl : (lineT r1).1
   ·have hz2 : Hid (Z = (false, (lineT r1).2.1, qs ++ (lineT r1).2.2)) := by
     show _ = _
     rw [hz]
     conv => lhs; unfold textF
     rw [if_neg hr, if_neg (by rw [hl]; decide), hl]
    clear hp hbw hz hf hlen
    go_wp2_with fail
    refine hL.mono ?_; rintro en w3 ⟨rfl, vp3, hp3, hb3⟩
    have HP3 := Lib.hid hp3
    have HB3 := Lib.hid (HBW.out.trans hb3)
    rw [hl]
    clear hp3 hb3 hl
    go_wp2_with fail
    go_ret
    exact ⟨by rw [hz2.out]; rfl, vp3, by rw [hz2.out]; simpa only [List.append_assoc] using HP3.out, HB3.out⟩
   ·have hz2 : Hid (Z = ((textF g (lineT r1).2.1).1, (textF g (lineT r1).2.1).2.1, (qs ++ (lineT r1).2.2) ++ (textF g (lineT r1).2.1).2.2)) := by
     show _ = _
     rw [hz]
     conv => lhs; unfold textF
     rw [if_neg hr, if_pos hl]
     simp only [List.append_assoc]
    have HLT := Lib.hid (lineT_lt hl hr)
    clear hp hbw hz hf hlen
    go_wp2_with fail
    refine hL.mono ?_; rintro en w3 ⟨rfl, vp3, hp3, hb3⟩
    rw [List.append_assoc] at hp3
    have HP3 := Lib.hid hp3
    have HB3 := Lib.hid (HBW.out.trans hb3)
    rw [hl]
    clear hp3 hb3 hl
    go_wp2_with fail
    go_roundw
    case rel => exact ⟨g, _, vp3, _, HP3.out, HB3.out, hz2.out, by have := HLT.out; have := HF.out; omega, by have := HLL.out; have := HLN.out; simp only [List.length_append]; omega⟩
    case measure => rw [hmu.out, HP3.out.mu]; exact HLT.out
end Go.Proofs.YtcaibahniheohaaDoor.Words

/- The labels of a text as a map of the call's own: what it holds, looked up and stored into. -/
namespace Go.Proofs.YtcaibahniheohaaDoor.Words
set_option maxRecDepth 100000
open Go.RowKit Go.Shelf Go.Lib
open Go.Maps (Keyed)
set_option linter.unusedVariables false
set_option linter.unusedSimpArgs false
def firstL (t : List UInt8) : List PartZ → Int → Option (Int × Int)
 | [], _ => none
 | x :: xs, n => if x.kind = 1 ∧ x.name = t then some ((x.at_ : Int), n) else firstL t xs (if x.kind = 2 then n + 1 else n)
def nIns (l : List PartZ) : Nat := (l.filter (fun x => decide (x.kind = 2))).length
theorem nIns_cons (x : PartZ) (l : List PartZ) : nIns (x :: l) = (if x.kind = 2 then 1 else 0) + nIns l := by
 unfold nIns
 by_cases h : x.kind = 2
 ·rw [List.filter_cons_of_pos (by simp [h]), if_pos h]; simp; omega
 ·rw [List.filter_cons_of_neg (by simp [h]), if_neg h]; omega
theorem nIns_append (l m : List PartZ) : nIns (l ++ m) = nIns l + nIns m := by unfold nIns; rw [List.filter_append, List.length_append]
theorem nIns_le (l : List PartZ) : nIns l ≤ l.length := List.length_filter_le _ _
theorem firstL_cons (t : List UInt8) (x : PartZ) (xs : List PartZ) (n : Int) : firstL t (x :: xs) n = if x.kind = 1 ∧ x.name = t then some ((x.at_ : Int), n) else firstL t xs (if x.kind = 2 then n + 1 else n) := rfl
theorem firstL_append (t : List UInt8) (m : List PartZ) : ∀ (l : List PartZ) (n : Int), firstL t (l ++ m) n = match firstL t l n with | some r => some r | none => firstL t m (n + nIns l)
 | [], n => by simp [firstL, nIns]
 | x :: xs, n => by
  rw [List.cons_append, firstL_cons, firstL_cons]
  by_cases h : x.kind = 1 ∧ x.name = t
  ·rw [if_pos h, if_pos h]
  ·rw [if_neg h, if_neg h, firstL_append t m xs, nIns_cons]
   by_cases h2 : x.kind = 2
   ·have e : n + 1 + (nIns xs : Int) = n + ((1 + nIns xs : Nat) : Int) := by omega
    rw [if_pos h2, if_pos h2, e]
   ·have e : n + (nIns xs : Int) = n + ((0 + nIns xs : Nat) : Int) := by omega
    rw [if_neg h2, if_neg h2, e]
theorem firstL_place (t : List UInt8) : ∀ (l : List PartZ) (n : Int), placeF t l n = (firstL t l n).map (·.2)
 | [], n => rfl
 | x :: xs, n => by
  unfold placeF firstL
  by_cases h : x.kind = 1 ∧ x.name = t
  ·rw [if_pos h, if_pos h]; rfl
  ·rw [if_neg h, if_neg h]; exact firstL_place t xs _
theorem firstL_has (t : List UInt8) : ∀ (l : List PartZ) (n : Int), (firstL t l n).isSome = hasL t l
 | [], n => rfl
 | x :: xs, n => by
  have e : hasL t (x :: xs) = (decide (x.kind = 1 ∧ x.name = t) || hasL t xs) := rfl
  rw [e]
  unfold firstL
  by_cases h : x.kind = 1 ∧ x.name = t
  ·rw [if_pos h, decide_eq_true h]; rfl
  ·rw [if_neg h, decide_eq_false h, Bool.false_or]; exact firstL_has t xs _
theorem firstL_in {t : List UInt8} {a p : Int} : ∀ {l : List PartZ} {n : Int}, firstL t l n = some (a, p) → n ≤ p ∧ p ≤ n + nIns l ∧ ∃ x ∈ l, x.kind = 1 ∧ x.name = t ∧ (x.at_ : Int) = a
 | [], n, h => by cases h
 | x :: xs, n, h => by
  unfold firstL at h
  rw [nIns_cons]
  by_cases h1 : x.kind = 1 ∧ x.name = t
  ·rw [if_pos h1] at h
   injection h with h
   injection h with h2 h3
   subst h3
   exact ⟨Int.le_refl _, by omega, x, by simp, h1.1, h1.2, h2⟩
  ·rw [if_neg h1] at h
   obtain ⟨q1, q2, y, q3, q4⟩ := firstL_in h
   by_cases h2 : x.kind = 2
   ·rw [if_pos h2] at q1 q2 ⊢
    exact ⟨by omega, by omega, y, List.mem_cons_of_mem _ q3, q4⟩
   ·rw [if_neg h2] at q1 q2 ⊢
    exact ⟨by omega, by omega, y, List.mem_cons_of_mem _ q3, q4⟩
abbrev labD (a p : Int) : DataW Unit := .agg [.lit (.int .i64 a), .lit (.int .i64 p)]
def labR (v : Value) : Option (DataW Unit × List MemPlace) :=
 match v with
 | .agg cs => match cs.toList with
  | [.int .i64 a, .int .i64 p] => some (labD a p, [])
  | _ => none
 | _ => none
theorem labR_mk (a p : Int) : labR (.agg #[.int .i64 a, .int .i64 p]) = some (labD a p, []) := rfl
theorem labR_inv {v : Value} {a p : Int} {ps : List MemPlace} (h : labR v = some (labD a p, ps)) : v = .agg #[.int .i64 a, .int .i64 p] := by
 unfold labR at h
 split at h
 ·rename_i cs
  split at h
  ·rename_i a' p' hc
   simp only [Option.some.injEq, Prod.mk.injEq, DataW.agg.injEq, List.cons.injEq, DataW.lit.injEq, Lit.int.injEq] at h
   obtain ⟨⟨⟨_, rfl⟩, ⟨_, rfl⟩, _⟩, _⟩ := h
   have := congrArg List.toArray hc
   rw [Array.toArray_toList] at this
   rw [this]
  ·cases h
 ·cases h
def LabM (w : World) (m n : Nat) (f : List UInt8 → Option (Int × Int)) : Prop :=
 ∃ D : DataW Unit, w.ownsMap Tryd.prog 9 labR m n D ∧ ∀ t : List UInt8, (∀ a p, f t = some (a, p) → ∀ z, D.atKey (.string t) z = labD a p) ∧ (f t = none → ∀ z, D.atKey (.string t) z = z)
theorem keyS : Keyed Tryd.prog 9 := Maps.string_keyed Tryd.underlying9
theorem keyT {t : List UInt8} (h : t.length ≤ 1000000) : keyOf Tryd.prog 9 (.string (txt t)) = some (.string t) := by
 have := WideMaps.keyOf_string_mk (P := Tryd.prog) Tryd.underlying9 (s := txt t) (by rw [txt_sz]; unfold maxLen; omega)
 rwa [txt_data] at this
theorem zeroLab (w : World) : (zeroValue 82).run Tryd.prog w = .ok (.agg #[.int .i64 0, .int .i64 0]) w := by kernel_rfl
section
variable {w w' : World} {m n : Nat} {f : List UInt8 → Option (Int × Int)}
theorem LabM.lt (h : LabM w m n f) : m < w.heap.size := by obtain ⟨D, h, _⟩ := h; exact h.lt
theorem LabM.keepS {S : Nat → Prop} (h : LabM w m n f) (hk : KeepS S w w') (hm : ¬ S m) : LabM w' m n f := by
 have hlt := h.lt
 obtain ⟨D, ⟨es, clock, hb, F, hs, hD⟩, h2⟩ := h
 exact ⟨D, ⟨es, clock, (hk.block m hlt hm).trans hb, F, hs, hD⟩, h2⟩
theorem LabM.go (h : LabM w m n f) (hb : Below w.heap.size w w') : LabM w' m n f := h.keepS (S := fun _ => False) (KeepS.of_below hb) (fun e => e)
theorem LabM.look_ok (h : LabM w m n f) {t : List UInt8} (ht : t.length ≤ 1000000) : (Instr.lookup 50 (.map (some m)) (.string (txt t)) true).run Tryd.prog w = .ok (.tuple #[.agg #[.int .i64 ((f t).getD (0, 0)).1, .int .i64 ((f t).getD (0, 0)).2], .bool (f t).isSome]) w := by
 obtain ⟨D, hown, h2⟩ := h
 obtain ⟨v, ps, hrun, hv⟩ := hown.look_ok keyS (e := 82) Tryd.underlying50 (zeroLab w) (labR_mk 0 0) (keyT ht)
 obtain ⟨q1, q2⟩ := h2 t
 cases hf : f t with
 | none =>
  have q3 := q2 hf
  rw [q3] at hv
  rw [hrun, labR_inv hv, Maps.has_false_of_atKey q3]
  rfl
 | some r =>
  obtain ⟨a, p⟩ := r
  have q3 := q1 a p hf
  rw [q3] at hv
  rw [hrun, labR_inv hv, Maps.has_true_of_atKey q3]
  rfl
theorem LabM.look (h : LabM w m n f) {t : List UInt8} (ht : t.length ≤ 1000000) : (Instr.lookup 50 (.map (some m)) (.string (txt t)) false).run Tryd.prog w = .ok (.agg #[.int .i64 ((f t).getD (0, 0)).1, .int .i64 ((f t).getD (0, 0)).2]) w := by
 obtain ⟨D, hown, h2⟩ := h
 obtain ⟨v, ps, hrun, hv⟩ := hown.lookup keyS (e := 82) Tryd.underlying50 (zeroLab w) (labR_mk 0 0) (keyT ht)
 obtain ⟨q1, q2⟩ := h2 t
 cases hf : f t with
 | none =>
  rw [q2 hf] at hv
  rw [hrun, labR_inv hv]
  rfl
 | some r =>
  obtain ⟨a, p⟩ := r
  rw [q1 a p hf] at hv
  rw [hrun, labR_inv hv]
  rfl
theorem labM_made (w : World) : LabM (w.alloc (.map #[] 0)) w.heap.size 0 (fun _ => none) :=
 ⟨.map [], World.ownsMap_made w _ _ _, fun t => ⟨fun a p h => (by cases h), fun _ z => rfl⟩⟩
theorem LabM.ext (h : LabM w m n f) {g : List UInt8 → Option (Int × Int)} (hg : ∀ t, f t = g t) : LabM w m n g := by
 obtain rfl : f = g := funext hg
 exact h
theorem labM_put {D : DataW Unit} {t : List UInt8} {a p : Int} {g : List UInt8 → Option (Int × Int)} (h : ∀ t : List UInt8, (∀ a p, f t = some (a, p) → ∀ z, D.atKey (.string t) z = labD a p) ∧ (f t = none → ∀ z, D.atKey (.string t) z = z))
  (hD : Maps.IsMap D) (h1 : g t = some (a, p)) (h2 : ∀ u, u ≠ t → g u = f u) (ho : w'.ownsMap Tryd.prog 9 labR m n (D.put (.string t) (labD a p))) : LabM w' m n g := by
 refine ⟨_, ho, fun u => ?_⟩
 by_cases hu : u = t
 ·subst hu
  refine ⟨fun a' p' h' z => ?_, fun h' => by rw [h1] at h'; cases h'⟩
  rw [h1] at h'
  injection h' with h'
  injection h' with h3 h4
  subst h3; subst h4
  exact Maps.atKey_put_same hD (show WideAt.IsKeyLit (.string u) from trivial) _ z
 ·rw [h2 u hu]
  obtain ⟨q1, q2⟩ := h u
  have hne : (Lit.string u) ≠ .string t := fun e => hu (by injection e)
  exact ⟨fun a' p' h' z => (Maps.atKey_put_other hne _ z).trans (q1 a' p' h' z), fun h' z => (Maps.atKey_put_other hne _ z).trans (q2 h' z)⟩
end
end Go.Proofs.YtcaibahniheohaaDoor.Words

/- Contract of package asm's labelsOf. -/
namespace Go.Proofs.YtcaibahniheohaaDoor.Words
set_option maxRecDepth 100000
open Go.RowKit Go.Shelf Go.Lib
set_option linter.unusedVariables false
set_option linter.unusedSimpArgs false
theorem Row.part {w : World} {B n c : Nat} {b off : Nat} {l : List PartZ} (h : Row w B 13 (.slice (some ⟨b, off, none⟩) n c) n (partsL l)) {k : Nat} {i : PartZ} (hi : l[k]? = some i) :
  w.rangeAt b (off + k * 13) (partL i) := by
 intro j u hu
 have hj : j < 13 := (List.getElem?_eq_some_iff.1 hu).1
 have := h.cells ⟨b, off, none⟩ rfl (k * 13 + j) u ((partsL_at l k i hi j hj).trans hu)
 rwa [add_spot, ← Nat.add_assoc] at this
theorem range_cells {w : World} {b o : Nat} {x : PartZ} (h : w.rangeAt b o (partL x)) :
  w.cell? ⟨b, o, none⟩ = some (.int .i64 x.kind) ∧ w.cell? ⟨b, o + 1, none⟩ = some (.int .i64 (x.at_ : Int)) ∧ w.cell? ⟨b, o + 2, none⟩ = some (.int .i64 x.num) ∧ w.cell? ⟨b, o + 3, none⟩ = some (.string (txt x.name)) ∧
  w.cell? ⟨b, o + 4, none⟩ = some (.int .i64 x.ins.op) ∧ w.cell? ⟨b, o + 5, none⟩ = some (.int .i64 x.ins.d) ∧ w.cell? ⟨b, o + 6, none⟩ = some (.int .i64 x.ins.a) ∧ w.cell? ⟨b, o + 7, none⟩ = some (.int .i64 x.ins.b) ∧ w.cell? ⟨b, o + 8, none⟩ = some (.int .i64 x.ins.imm) ∧
  w.cell? ⟨b, o + 9, none⟩ = some (.int .i64 x.target.kind) ∧ w.cell? ⟨b, o + 10, none⟩ = some (.int .i64 x.target.num) ∧ w.cell? ⟨b, o + 11, none⟩ = some (.int .i64 (x.target.at_ : Int)) ∧ w.cell? ⟨b, o + 12, none⟩ = some (.string (txt x.target.text)) :=
 ⟨h 0 _ rfl, h 1 _ rfl, h 2 _ rfl, h 3 _ rfl, h 4 _ rfl, h 5 _ rfl, h 6 _ rfl, h 7 _ rfl, h 8 _ rfl, h 9 _ rfl, h 10 _ rfl, h 11 _ rfl, h 12 _ rfl⟩
theorem take_snoc {α : Type} {l : List α} {k : Nat} {x : α} (h : l[k]? = some x) : l.take (k + 1) = l.take k ++ [x] := by
 rw [List.take_add_one, h]
 rfl
theorem firstL_snoc (t : List UInt8) (l : List PartZ) (x : PartZ) : firstL t (l ++ [x]) 0 = match firstL t l 0 with | some r => some r | none => if x.kind = 1 ∧ x.name = t then some ((x.at_ : Int), (nIns l : Int)) else none := by
 rw [firstL_append]
 cases firstL t l 0 with
 | some r => rfl
 | none =>
  show firstL t [x] _ = _
  rw [firstL_cons]
  by_cases h : x.kind = 1 ∧ x.name = t
  ·rw [if_pos h]; simp [h]
  ·rw [if_neg h]; simp only [h, if_false]; rfl
theorem firstL_other {t : List UInt8} {l : List PartZ} {x : PartZ} (h : x.kind ≠ 1 ∨ x.name ≠ t ∨ (firstL t l 0).isSome = true) : firstL t (l ++ [x]) 0 = firstL t l 0 := by
 rw [firstL_snoc]
 cases hf : firstL t l 0 with
 | some r => rfl
 | none =>
  rw [hf] at h
  show (if x.kind = 1 ∧ x.name = t then _ else _) = _
  rw [if_neg]
  rintro ⟨h1, h2⟩
  rcases h with h | h | h
  ·exact h h1
  ·exact h h2
  ·cases h
set_option maxHeartbeats 4000000 in
theorem labelsOf_any (vp : Value) (ps : List PartZ) (w : World) (hr : Row w w.heap.size 13 vp ps.length (partsL ps)) (hn : ∀ x ∈ ps, x.name.length ≤ 1000000) (hps : ps.length ≤ 1000000) :
  Calls Tryd.prog 18 #[vp] w fun e w' => e = .returned (.map (some w.heap.size)) ∧ LabM w' w.heap.size ps.length (fun t => firstL t ps 0) ∧ Below w.heap.size w w' := by
 obtain ⟨A, c, rfl⟩ := hr.form
 have HR := Lib.hid hr
 have HN := Lib.hid hn
 have HPS := Lib.hid hps
 obtain ⟨N, hN⟩ : ∃ N, N = ps.length := ⟨_, rfl⟩
 have HNN := Lib.hid hN
 rw [← hN]
 have n0 : (N : Int) ≤ 1000000 := by omega
 have hmm := @run_makeMap Tryd.prog
 have LM0 := Lib.hid (labM_made w)
 clear hr hn hps hN
 go_enter Tryd.func18, Tryd.ntmps18
 go_wp2_with fail
 go_loopw [4, 12] (fun q i wr => ∃ k : Nat, k ≤ N ∧ i = .int .i64 k ∧ q = .int .i64 (nIns (ps.take k) : Int) ∧ LabM wr w.heap.size k (fun t => firstL t (ps.take k) 0) ∧ Below w.heap.size w wr) (fun _ i _ => N - (intOf i).toNat)
 case atStart => exact ⟨0, Nat.zero_le _, rfl, rfl, LM0.out, (Below.refl _ _).alloc (Nat.le_refl _) _⟩
 case round =>
  obtain ⟨k, hk, rfl, rfl, hM, hB⟩ := hrel
  have HM := Lib.hid hM
  have HB := Lib.hid hB
  have HK := Lib.hid hk
  have hmlt := hM.lt
  by_cases hlt : k < N
  ·obtain ⟨x, hx⟩ : ∃ x, ps[k]? = some x := ⟨_, List.getElem?_eq_getElem (by have := HNN.out; omega)⟩
   obtain ⟨g, off, rfl, hg, _⟩ := HR.out.at_ (by have := HNN.out; omega)
   have hcells := range_cells ((HR.out.below hB).part hx)
   obtain ⟨c0, c1, c2, c3, c4, c5, c6, c7, c8, c9, c10, c11, c12⟩ := hcells
   have hxm : x ∈ ps := List.mem_iff_getElem?.2 ⟨k, hx⟩
   have hxn := HN.out x hxm
   have HTK := Lib.hid (take_snoc hx)
   have HIN := Lib.hid (nIns_append (ps.take k) [x])
   have hgr : g < wr.heap.size := Nat.lt_of_lt_of_le hg hB.size
   have kq : decide ((k : Int) < N) = true := decide_eq_true (by omega)
   have kq2 : decide (k < N) = true := decide_eq_true hlt
   have k0 : (0 : Int) ≤ k := by omega
   have k1 : (k : Int) < N := by omega
   have hnk : (nIns (ps.take k) : Int) ≤ 1000000 := by have := nIns_le (ps.take k); have := List.length_take_le k ps; omega
   have hnk0 : (0 : Int) ≤ nIns (ps.take k) := by omega
   obtain ⟨D, hown, hD⟩ := HM.out
   have HOWN := Lib.hid hown
   have HD := Lib.hid hD
   have hisM := hown.isMap
   have LK := fun y (hy : LabM y w.heap.size k (fun t => firstL t (ps.take k) 0)) => hy.look_ok hxn
   have HLK := Lib.hid LK
   have HMA := Lib.hid (fun o => hM.go ((Below.refl _ wr).alloc (Nat.le_refl _) o))
   clear LK hxm hxn hM hk hown hD hB
   by_cases h2 : x.kind = 2
   ·have q1 : (x.kind == 2) = true := by simpa using h2
    have HNX : Hid (nIns (ps.take (k + 1)) = nIns (ps.take k) + 1) := by show _ = _; rw [HTK.out, HIN.out]; simp [nIns, h2]
    have HFX : Hid (∀ t, firstL t (ps.take k) 0 = firstL t (ps.take (k + 1)) 0) := by intro t; rw [HTK.out]; exact (firstL_other (.inl (by omega))).symm
    clear h2 hisM
    generalize nIns (ps.take k) = nk at *
    go_wp2_with fail
    go_roundw
    case rel => exact ⟨k + 1, by omega, rfl, by rw [HNX.out]; rfl, by
      obtain ⟨D2, hown2, hD2⟩ := (HMA.out _).ext HFX.out
      exact ⟨D2, hown2.mono (Nat.le_succ _), hD2⟩, HB.out.alloc HB.out.size _⟩
    case measure => simp only [intOf]; omega
   by_cases h1 : x.kind = 1
   ·have q1 : (x.kind == 2) = false := by simpa using h2
    have q2 : (x.kind == 1) = true := by simpa using h1
    have HNX : Hid (nIns (ps.take (k + 1)) = nIns (ps.take k)) := by show _ = _; rw [HTK.out, HIN.out]; simp [nIns, h2]
    cases hf : firstL x.name (ps.take k) 0 with
    | some r =>
     have HFX : Hid (∀ t, firstL t (ps.take k) 0 = firstL t (ps.take (k + 1)) 0) := by
      intro t
      rw [HTK.out]
      by_cases ht : x.name = t
      ·exact (firstL_other (.inr (.inr (by rw [← ht, hf]; rfl)))).symm
      ·exact (firstL_other (.inr (.inl ht))).symm
     have lk := HLK.out (wr.alloc (.cells #[.int .i64 x.kind, .int .i64 (x.at_ : Int), .int .i64 x.num, .string (txt x.name), .int .i64 x.ins.op, .int .i64 x.ins.d, .int .i64 x.ins.a, .int .i64 x.ins.b, .int .i64 x.ins.imm, .int .i64 x.target.kind, .int .i64 x.target.num, .int .i64 (x.target.at_ : Int), .string (txt x.target.text)] 55)) (HMA.out _)
     rw [hf] at lk
     simp only [Option.getD_some, Option.isSome_some] at lk
     clear h1 h2 hisM hf
     generalize nIns (ps.take k) = nk at *
     go_wp2_with fail
     go_roundw
     case rel => exact ⟨k + 1, by omega, rfl, by rw [HNX.out], by
       obtain ⟨D2, hown2, hD2⟩ := ((HMA.out _).go ((Below.refl _ _).alloc (Nat.le_refl _) _)).ext HFX.out
       exact ⟨D2, hown2.mono (Nat.le_succ _), hD2⟩, (HB.out.alloc HB.out.size _).alloc (by have := HB.out.size; simp; omega) _⟩
     case measure => simp only [intOf]; omega
    | none =>
     have lk := HLK.out (wr.alloc (.cells #[.int .i64 x.kind, .int .i64 (x.at_ : Int), .int .i64 x.num, .string (txt x.name), .int .i64 x.ins.op, .int .i64 x.ins.d, .int .i64 x.ins.a, .int .i64 x.ins.b, .int .i64 x.ins.imm, .int .i64 x.target.kind, .int .i64 x.target.num, .int .i64 (x.target.at_ : Int), .string (txt x.target.text)] 55)) (HMA.out _)
     rw [hf] at lk
     simp only [Option.getD_none, Option.isSome_none] at lk
     have HF1 : Hid (firstL x.name (ps.take (k + 1)) 0 = some ((x.at_ : Int), (nIns (ps.take k) : Int))) := by
      show _ = _
      rw [HTK.out, firstL_snoc, hf]
      simp [h1]
     have HF2 : Hid (∀ u, u ≠ x.name → firstL u (ps.take (k + 1)) 0 = firstL u (ps.take k) 0) := by
      intro u hu
      rw [HTK.out]
      exact firstL_other (.inr (.inl (fun e => hu e.symm)))
     have HKEY := Lib.hid (keyT (t := x.name) (HN.out x (List.mem_iff_getElem?.2 ⟨k, hx⟩)))
     have HIM := Lib.hid hisM
     clear h1 h2 hisM hf
     generalize nIns (ps.take k) = nk at *
     go_wp2_with (at_mapUpdate; refine wpList_mapUpdate_own _ rfl _ _ _ 50 rfl 9 82 keyS Tryd.underlying50 labR w.heap.size k D rfl ((HOWN.out.alloc _).alloc _) (by unfold maxLen; omega) _ _ (.string x.name) rfl rfl HKEY.out (labD (x.at_ : Int) (nk : Int)) [] (labR_mk _ _) ?_; intro w1 hown1 hgrow1)
     go_roundw
     case rel => exact ⟨k + 1, by omega, rfl, by rw [HNX.out], labM_put HD.out HIM.out HF1.out HF2.out hown1, ((HB.out.alloc HB.out.size _).alloc (by have := HB.out.size; simp; omega) _).grown hgrow1 (by have := HB.out.size; simp; omega) (fun j hj => by injection hj with hj; omega)⟩
     case measure => simp only [intOf]; omega
   ·have q1 : (x.kind == 2) = false := by simpa using h2
    have q2 : (x.kind == 1) = false := by simpa using h1
    have HNX : Hid (nIns (ps.take (k + 1)) = nIns (ps.take k)) := by show _ = _; rw [HTK.out, HIN.out]; simp [nIns, h2]
    have HFX : Hid (∀ t, firstL t (ps.take k) 0 = firstL t (ps.take (k + 1)) 0) := by intro t; rw [HTK.out]; exact (firstL_other (.inl h1)).symm
    clear h1 h2 hisM
    generalize nIns (ps.take k) = nk at *
    go_wp2_with fail
    go_roundw
    case rel => exact ⟨k + 1, by omega, rfl, by rw [HNX.out], by
      obtain ⟨D2, hown2, hD2⟩ := (HMA.out _).ext HFX.out
      exact ⟨D2, hown2.mono (Nat.le_succ _), hD2⟩, HB.out.alloc HB.out.size _⟩
    case measure => simp only [intOf]; omega
  ·have hkN : k = N := by omega
   have kq : decide ((k : Int) < N) = false := decide_eq_false (by omega)
   have kq2 : decide (k < N) = false := decide_eq_false hlt
   have HE : Hid (ps.take k = ps) := List.take_of_length_le (by have := HNN.out; omega)
   clear hM hk hB
   go_wp2_with fail
   go_ret
   refine ⟨rfl, ?_, HB.out⟩
   have := HM.out
   rw [HE.out, hkN] at this
   exact this
end Go.Proofs.YtcaibahniheohaaDoor.Words

/- Contracts of isa.Right and of the document's own RightIns: whether an instruction is one that may be. No conditions. -/
namespace Go.Proofs.YtcaibahniheohaaDoor.Words
set_option maxRecDepth 100000
open Go.RowKit
theorem right_none {i : Ins} (h : (formZ i.op == 0) = true) : rightB i = false := by
 have : formZ i.op = 0 := by simpa using h
 unfold rightB; simp [this]
theorem right_some {i : Ins} (h : (formZ i.op == 0) = false) : rightB i = (fitsB i.d 0 15 (hasD (formZ i.op)) && fitsB i.a 0 15 (hasA (formZ i.op)) && fitsB i.b 0 15 (hasB (formZ i.op)) && fitsB i.imm (lowI i.op) (highI i.op) (hasI (formZ i.op))) := by
 have : formZ i.op ≠ 0 := by simpa using h
 unfold rightB; simp [this]
set_option maxHeartbeats 1000000 in
theorem right_any (i : Ins) (w : World) :
  Calls Tryd.prog 60 #[.agg #[.int .i64 i.op, .int .i64 i.d, .int .i64 i.a, .int .i64 i.b, .int .i64 i.imm]] w fun e w' => e = .returned (.bool (rightB i)) ∧ Below w.heap.size w w' := by
 have hr := formZ_range i.op
 cases h0 : (formZ i.op == 0)
 ·have hright := Lib.hid (right_some h0)
  go_enter Tryd.func60, Tryd.ntmps60
  go_wp2_with fail
  refine (form_any _ _).mono ?_; rintro e w1 ⟨rfl, rfl⟩
  go_wp2_with fail
  refine (fieldsOf_any _ _ hr.1 hr.2).mono ?_; rintro e w1 ⟨rfl, hb1⟩
  obtain ⟨hc1, hf1⟩ := bcell hb1
  have hz1 : w.heap.size < w1.heap.size := by have := hb1.size; simp at this; omega
  have hB := (((Below.refl w.heap.size w).alloc (Nat.le_refl _) _).trans (hb1.mono (by simp)))
  cases hd : fitsB i.d 0 15 (hasD (formZ i.op))
  ·rw [hd] at hright
   go_wp2_with fail
   refine (limits_any _ _).mono ?_; rintro e w2 ⟨rfl, rfl⟩
   go_wp2_with fail
   refine (fits_any _ _ _ _ _).mono ?_; rintro e w2 ⟨rfl, rfl⟩
   rw [hd]
   go_wp2_with fail
   go_ret
   exact ⟨ret_bool (by rw [hright.out]; rfl), hB.alloc (by omega) _⟩
  cases ha : fitsB i.a 0 15 (hasA (formZ i.op))
  ·rw [hd, ha] at hright
   go_wp2_with fail
   refine (limits_any _ _).mono ?_; rintro e w2 ⟨rfl, rfl⟩
   go_wp2_with fail
   refine (fits_any _ _ _ _ _).mono ?_; rintro e w2 ⟨rfl, rfl⟩
   rw [hd]
   go_wp2_with fail
   refine (fits_any _ _ _ _ _).mono ?_; rintro e w2 ⟨rfl, rfl⟩
   rw [ha]
   go_wp2_with fail
   go_ret
   exact ⟨ret_bool (by rw [hright.out]; rfl), hB.alloc (by omega) _⟩
  cases hb : fitsB i.b 0 15 (hasB (formZ i.op))
  ·rw [hd, ha, hb] at hright
   go_wp2_with fail
   refine (limits_any _ _).mono ?_; rintro e w2 ⟨rfl, rfl⟩
   go_wp2_with fail
   refine (fits_any _ _ _ _ _).mono ?_; rintro e w2 ⟨rfl, rfl⟩
   rw [hd]
   go_wp2_with fail
   refine (fits_any _ _ _ _ _).mono ?_; rintro e w2 ⟨rfl, rfl⟩
   rw [ha]
   go_wp2_with fail
   refine (fits_any _ _ _ _ _).mono ?_; rintro e w2 ⟨rfl, rfl⟩
   rw [hb]
   go_wp2_with fail
   go_ret
   exact ⟨ret_bool (by rw [hright.out]; rfl), hB.alloc (by omega) _⟩
  ·rw [hd, ha, hb] at hright
   go_wp2_with fail
   refine (limits_any _ _).mono ?_; rintro e w2 ⟨rfl, rfl⟩
   go_wp2_with fail
   refine (fits_any _ _ _ _ _).mono ?_; rintro e w2 ⟨rfl, rfl⟩
   rw [hd]
   go_wp2_with fail
   refine (fits_any _ _ _ _ _).mono ?_; rintro e w2 ⟨rfl, rfl⟩
   rw [ha]
   go_wp2_with fail
   refine (fits_any _ _ _ _ _).mono ?_; rintro e w2 ⟨rfl, rfl⟩
   rw [hb]
   go_wp2_with fail
   refine (fits_any _ _ _ _ _).mono ?_; rintro e w2 ⟨rfl, rfl⟩
   go_wp2_with fail
   go_ret
   exact ⟨ret_bool (by rw [hright.out]; rfl), hB.alloc (by omega) _⟩
 ·have hright := Lib.hid (right_none h0)
  go_enter Tryd.func60, Tryd.ntmps60
  go_wp2_with fail
  refine (form_any _ _).mono ?_; rintro e w1 ⟨rfl, rfl⟩
  go_wp2_with fail
  go_ret
  exact ⟨ret_bool hright.out.symm, (Below.refl _ _).alloc (Nat.le_refl _) _⟩
set_option maxHeartbeats 1000000 in
theorem rightIns_any (i : Ins) (w : World) :
  Calls Tryd.prog 24 #[.agg #[.int .i64 i.op, .int .i64 i.d, .int .i64 i.a, .int .i64 i.b, .int .i64 i.imm]] w fun e w' => e = .returned (.bool (rightB i)) ∧ Below w.heap.size w w' := by
 have hB : ∀ o, Below w.heap.size w (w.alloc o) := fun o => (Below.refl w.heap.size w).alloc (Nat.le_refl _) o
 have HB := Lib.hid hB
 clear hB
 cases h0 : (formZ i.op == 0)
 ·have hright := Lib.hid (right_some h0)
  cases hd : fitsB i.d 0 15 (hasD (formZ i.op))
  ·rw [hd] at hright
   go_enter Tryd.func24, Tryd.ntmps24
   go_wp2_with fail
   refine (refForm_any _ _).mono ?_; rintro e w1 ⟨rfl, rfl⟩
   go_wp2_with fail
   refine (has_any _ _).mono ?_; rintro e w1 ⟨rfl, rfl⟩
   go_wp2_with fail
   refine (reg_any _ _ _).mono ?_; rintro e w1 ⟨rfl, rfl⟩
   rw [hd]
   go_wp2_with fail
   go_ret
   exact ⟨ret_bool (by rw [hright.out]; rfl), HB.out _⟩
  cases ha : fitsB i.a 0 15 (hasA (formZ i.op))
  ·rw [hd, ha] at hright
   go_enter Tryd.func24, Tryd.ntmps24
   go_wp2_with fail
   refine (refForm_any _ _).mono ?_; rintro e w1 ⟨rfl, rfl⟩
   go_wp2_with fail
   refine (has_any _ _).mono ?_; rintro e w1 ⟨rfl, rfl⟩
   go_wp2_with fail
   refine (reg_any _ _ _).mono ?_; rintro e w1 ⟨rfl, rfl⟩
   rw [hd]
   go_wp2_with fail
   refine (reg_any _ _ _).mono ?_; rintro e w1 ⟨rfl, rfl⟩
   rw [ha]
   go_wp2_with fail
   go_ret
   exact ⟨ret_bool (by rw [hright.out]; rfl), HB.out _⟩
  cases hb : fitsB i.b 0 15 (hasB (formZ i.op))
  ·rw [hd, ha, hb] at hright
   go_enter Tryd.func24, Tryd.ntmps24
   go_wp2_with fail
   refine (refForm_any _ _).mono ?_; rintro e w1 ⟨rfl, rfl⟩
   go_wp2_with fail
   refine (has_any _ _).mono ?_; rintro e w1 ⟨rfl, rfl⟩
   go_wp2_with fail
   refine (reg_any _ _ _).mono ?_; rintro e w1 ⟨rfl, rfl⟩
   rw [hd]
   go_wp2_with fail
   refine (reg_any _ _ _).mono ?_; rintro e w1 ⟨rfl, rfl⟩
   rw [ha]
   go_wp2_with fail
   refine (reg_any _ _ _).mono ?_; rintro e w1 ⟨rfl, rfl⟩
   rw [hb]
   go_wp2_with fail
   go_ret
   exact ⟨ret_bool (by rw [hright.out]; rfl), HB.out _⟩
  ·rw [hd, ha, hb] at hright
   have hl := lowI_cases i.op
   cases hi : hasI (formZ i.op)
   ·rw [hi] at hright
    by_cases hz : i.imm = 0
    ·have hz' : (i.imm != 0) = false := by simp [hz]
     have hv : rightB i = true := by rw [hright.out]; simp [fitsB, hz]
     have HV := Lib.hid hv
     clear hv
     go_enter Tryd.func24, Tryd.ntmps24
     go_wp2_with fail
     refine (refForm_any _ _).mono ?_; rintro e w1 ⟨rfl, rfl⟩
     go_wp2_with fail
     refine (has_any _ _).mono ?_; rintro e w1 ⟨rfl, rfl⟩
     rw [hi]
     go_wp2_with fail
     refine (reg_any _ _ _).mono ?_; rintro e w1 ⟨rfl, rfl⟩
     rw [hd]
     go_wp2_with fail
     refine (reg_any _ _ _).mono ?_; rintro e w1 ⟨rfl, rfl⟩
     rw [ha]
     go_wp2_with fail
     refine (reg_any _ _ _).mono ?_; rintro e w1 ⟨rfl, rfl⟩
     rw [hb]
     go_wp2_with fail
     all_goals
      go_ret
      exact ⟨ret_bool_iff (by first | (rw [HV.out]; done) | (rw [HV.out]; simp; done) | (rw [HV.out]; simp; omega)), HB.out _⟩
    ·have hz' : (i.imm != 0) = true := by simp [hz]
     have hv : rightB i = false := by rw [hright.out]; simp [fitsB, hz]
     have HV := Lib.hid hv
     clear hv
     go_enter Tryd.func24, Tryd.ntmps24
     go_wp2_with fail
     refine (refForm_any _ _).mono ?_; rintro e w1 ⟨rfl, rfl⟩
     go_wp2_with fail
     refine (has_any _ _).mono ?_; rintro e w1 ⟨rfl, rfl⟩
     rw [hi]
     go_wp2_with fail
     refine (reg_any _ _ _).mono ?_; rintro e w1 ⟨rfl, rfl⟩
     rw [hd]
     go_wp2_with fail
     refine (reg_any _ _ _).mono ?_; rintro e w1 ⟨rfl, rfl⟩
     rw [ha]
     go_wp2_with fail
     refine (reg_any _ _ _).mono ?_; rintro e w1 ⟨rfl, rfl⟩
     rw [hb]
     go_wp2_with fail
     go_ret
     exact ⟨ret_bool HV.out.symm, HB.out _⟩
   ·rw [hi] at hright
    have hv : rightB i = decide (lowI i.op ≤ i.imm ∧ i.imm ≤ highI i.op) := by rw [hright.out]; simp [fitsB]
    have HV := Lib.hid hv
    clear hv
    go_enter Tryd.func24, Tryd.ntmps24
    go_wp2_with fail
    refine (refForm_any _ _).mono ?_; rintro e w1 ⟨rfl, rfl⟩
    go_wp2_with fail
    refine (has_any _ _).mono ?_; rintro e w1 ⟨rfl, rfl⟩
    rw [hi]
    go_wp2_with fail
    refine (reg_any _ _ _).mono ?_; rintro e w1 ⟨rfl, rfl⟩
    rw [hd]
    go_wp2_with fail
    refine (reg_any _ _ _).mono ?_; rintro e w1 ⟨rfl, rfl⟩
    rw [ha]
    go_wp2_with fail
    refine (reg_any _ _ _).mono ?_; rintro e w1 ⟨rfl, rfl⟩
    rw [hb]
    go_wp2_with fail
    all_goals
     go_ret
     exact ⟨ret_bool_iff (by rw [HV.out]; (try simp only [beq_iff_eq, beq_eq_false_iff_ne, ne_eq] at *); first | (simp; done) | (simp; omega)), HB.out _⟩
 ·have hright := Lib.hid (right_none h0)
  go_enter Tryd.func24, Tryd.ntmps24
  go_wp2_with fail
  refine (refForm_any _ _).mono ?_; rintro e w1 ⟨rfl, rfl⟩
  go_wp2_with fail
  refine (has_any _ _).mono ?_; rintro e w1 ⟨rfl, rfl⟩
  go_wp2_with fail
  go_ret
  exact ⟨ret_bool hright.out.symm, HB.out _⟩
end Go.Proofs.YtcaibahniheohaaDoor.Words

/- A builder in its block: its labels and its program as cells; what a part lays. -/
namespace Go.Proofs.YtcaibahniheohaaDoor.Words
set_option maxRecDepth 100000
open Go.RowKit Go.Shelf Go.Lib
set_option linter.unusedVariables false
set_option linter.unusedSimpArgs false
def Bld (w : World) (c m n : Nat) (f : List UInt8 → Option (Int × Int)) (p : Prog) (vc vd : Value) : Prop :=
 Box w c [.map (some m), vc, .int .i64 p.size, vd] ∧ LabM w m n f ∧ w.ownsRow (c + 1) 38 5 vc p.code.length (codeCells p.code) ∧ w.ownsRow (c + 1) 5 1 vd p.data.length (p.data.map (Value.int .u8)) ∧ m < c
theorem apart8 {w : World} {b1 b2 s1 s2 n1 n2 : Nat} {e1 e2 : TypeId} {v1 v2 : Value} {x1 x2 : List Value} (h1 : w.ownsRow b1 e1 s1 v1 n1 x1) (h2 : w.ownsRow b2 e2 s2 v2 n2 x2) (hne : e1 ≠ e2) {g : Nat} (hg : v1.ownBlock = some g) : some g ≠ v2.ownBlock := by
 rcases h1.2 with ⟨rfl, _⟩ | ⟨g1, c1, cur1, rfl, _, a1, _⟩
 ·cases hg
 rcases h2.2 with ⟨rfl, _⟩ | ⟨g2, c2, cur2, rfl, _, a2, _⟩
 ·intro h; cases h
 ·intro h
  simp only [Value.ownBlock, Option.some.injEq] at h hg
  subst hg
  subst h
  rw [a1] at a2
  simp only [Option.some.injEq, Obj.cells.injEq] at a2
  exact hne a2.2.1
theorem row_list (w : World) (l : List Value) (t : TypeId) : Row (w.alloc (.cells l.toArray t)) (w.heap.size + 1) l.length (.slice (some ⟨w.heap.size, 0, none⟩) 1 1) 1 l := by
 refine ⟨(Nat.one_mul _).symm, _, _, rfl, Nat.le_refl _, by omega, (fun h => by cases h), fun _ => ⟨w.heap.size, 0, rfl, Nat.lt_succ_self _, fun j u hu => ?_⟩⟩
 have := new_cells w l.toArray t l (by simp) j u hu
 rwa [add_spot] at this
theorem info_ins8 : (Tryd.prog.info? 38).map (fun i => (i.zero, i.size, i.bytes)) = some (some (.agg #[.int .i64 0, .int .i64 0, .int .i64 0, .int .i64 0, .int .i64 0]), 5, 40) := by kernel_rfl
theorem info_byte8 : (Tryd.prog.info? 5).map (fun i => (i.zero, i.size, i.bytes)) = some (some (.int .u8 0), 1, 1) := by kernel_rfl
theorem size_ins8 : (Tryd.prog.info? 38).map (·.size) = some 5 := by kernel_rfl
section
variable {w w' : World} {c m n : Nat} {f : List UInt8 → Option (Int × Int)} {p : Prog} {vc vd : Value}
theorem Bld.lt (h : Bld w c m n f p vc vd) : c < w.heap.size := h.1.lt
theorem Bld.keepS {S : Nat → Prop} (h : Bld w c m n f p vc vd) (hk : KeepS S w w') (hs : ∀ k, S k → c < k) (h1 : ∀ g, vc.ownBlock = some g → ¬ S g) (h2 : ∀ g, vd.ownBlock = some g → ¬ S g) : Bld w' c m n f p vc vd := by
 obtain ⟨q1, q2, q3, q4, q5⟩ := h
 exact ⟨q1.keepS hk (fun e => by have := hs _ e; omega), q2.keepS hk (fun e => by have := hs _ e; omega), own_keepS q3 hk h1, own_keepS q4 hk h2, q5⟩
theorem Bld.go (h : Bld w c m n f p vc vd) (hb : Below w.heap.size w w') : Bld w' c m n f p vc vd := by
 obtain ⟨q1, q2, q3, q4, q5⟩ := h
 exact ⟨q1.below hb q1.lt, q2.go hb, own_below q3 hb, own_below q4 hb, q5⟩
theorem Bld.alloc (h : Bld w c m n f p vc vd) (o : Obj) : Bld (w.alloc o) c m n f p vc vd := h.go ((Below.refl _ _).alloc (Nat.le_refl _) o)
theorem Bld.drew (h : Bld w c m n f p vc vd) : Bld w.drew c m n f p vc vd := h
theorem Bld.set (h : Bld w c m n f p vc vd) {x : Nat} (hx : c < x) (h1 : vc.ownBlock ≠ some x) (h2 : vd.ownBlock ≠ some x) (k : Nat) (v : Value) : Bld (w.setCell ⟨x, k, none⟩ v) c m n f p vc vd :=
 h.keepS ((KeepS.refl (fun j => j = x) w).setCell rfl k v) (fun j hj => by omega) (fun g hg e => h1 (by rw [hg, e])) (fun g hg e => h2 (by rw [hg, e]))
theorem Bld.code {X y : World} {v3 : Value} {i : Ins} {o : Obj} {cells : List Value} (h : Bld X c m n f p vc vd) (hg : (X.alloc o).grownBy y vc.ownBlock) (ho : y.ownsRow (c + 1) 38 5 v3 (p.code.length + 1) (codeCells p.code ++ cells)) (hc : cells = insCells i) :
  Bld (y.setCell ⟨c, 1, none⟩ v3) c m n f { p with code := p.code ++ [i] } v3 vd ∧ Below c X (y.setCell ⟨c, 1, none⟩ v3) := by
 subst hc
 have hlt := h.lt
 obtain ⟨q1, q2, q3, q4, q5⟩ := h
 have hob : ∀ k, vc.ownBlock = some k → c + 1 ≤ k := fun k hk => (q3.lt k hk).1
 have hB : Below c X y := ((Below.refl c X).alloc (Nat.le_of_lt hlt) o).grown hg (by simp; omega) (fun k hk => by have := hob k hk; omega)
 have hB2 : Below c X (y.setCell ⟨c, 1, none⟩ v3) := hB.setCell (Nat.le_refl _) _
 refine ⟨⟨?_, ?_, ?_, ?_, q5⟩, hB2⟩
 ·exact ((q1.alloc o).grown hg (fun e => by have := hob c e.symm; omega)).setCell 1 v3
 ·exact q2.keepS (S := fun j => c ≤ j) ⟨hB2.os, hB2.tape, hB2.output, hB2.size, fun k hk hs => hB2.block k (Nat.lt_of_not_le hs)⟩ (by omega)
 ·rw [codeCells_append, List.length_append]
  exact ownsRow_setCell_below (by simpa [codeCells] using ho) (a := ⟨c, 1, none⟩) (Nat.lt_succ_self c) v3
 ·exact ownsRow_setCell_below (own_grown (q4.alloc o) hg (fun g hh => apart8 (q4.alloc o) (q3.alloc o) (by decide) hh)) (a := ⟨c, 1, none⟩) (Nat.lt_succ_self c) v3
theorem Bld.byte {X y : World} {v3 : Value} {k : Int} {o : Obj} (h : Bld X c m n f p vc vd) (hg : (X.alloc o).grownBy y vd.ownBlock) (ho : y.ownsRow (c + 1) 5 1 v3 (p.data.length + 1) (p.data.map (Value.int .u8) ++ [.int .u8 k])) :
  Bld (y.setCell ⟨c, 3, none⟩ v3) c m n f { p with data := p.data ++ [k] } vc v3 ∧ Below c X (y.setCell ⟨c, 3, none⟩ v3) := by
 have hlt := h.lt
 obtain ⟨q1, q2, q3, q4, q5⟩ := h
 have hob : ∀ k, vd.ownBlock = some k → c + 1 ≤ k := fun k hk => (q4.lt k hk).1
 have hB : Below c X y := ((Below.refl c X).alloc (Nat.le_of_lt hlt) o).grown hg (by simp; omega) (fun k hk => by have := hob k hk; omega)
 have hB2 : Below c X (y.setCell ⟨c, 3, none⟩ v3) := hB.setCell (Nat.le_refl _) _
 refine ⟨⟨?_, ?_, ?_, ?_, q5⟩, hB2⟩
 ·exact ((q1.alloc o).grown hg (fun e => by have := hob c e.symm; omega)).setCell 3 v3
 ·exact q2.keepS (S := fun j => c ≤ j) ⟨hB2.os, hB2.tape, hB2.output, hB2.size, fun k hk hs => hB2.block k (Nat.lt_of_not_le hs)⟩ (by omega)
 ·exact ownsRow_setCell_below (own_grown (q3.alloc o) hg (fun g hh => apart8 (q3.alloc o) (q4.alloc o) (by decide) hh)) (a := ⟨c, 3, none⟩) (Nat.lt_succ_self c) v3
 ·rw [List.map_append, List.length_append]
  exact ownsRow_setCell_below ho (a := ⟨c, 3, none⟩) (Nat.lt_succ_self c) v3
theorem Bld.resize {X : World} (h : Bld X c m n f p vc vd) (k : Int) : Bld (X.setCell ⟨c, 2, none⟩ (.int .i64 k)) c m n f { p with size := k } vc vd ∧ Below c X (X.setCell ⟨c, 2, none⟩ (.int .i64 k)) := by
 have hK : KeepS (fun j => j = c) X (X.setCell ⟨c, 2, none⟩ (.int .i64 k)) := (KeepS.refl (fun j => j = c) X).setCell rfl _ _
 obtain ⟨q1, q2, q3, q4, q5⟩ := h
 exact ⟨⟨q1.setCell 2 _, q2.keepS hK (by omega), own_keepS q3 hK (fun g hg e => by have := (q3.lt g hg).1; omega), own_keepS q4 hK (fun g hg e => by have := (q4.lt g hg).1; omega), q5⟩, (Below.refl c X).setCell (Nat.le_refl _) _⟩
end
def put1 (i : Ins) (x : PartZ) (p : Prog) : AsmR := if rightB i = true then .ok { p with code := p.code ++ [i] } else .bad x.at_ 8
def ins1 (f : List UInt8 → Option (Int × Int)) (x : PartZ) (p : Prog) : AsmR :=
 if x.target.kind = 1 then (match f x.target.text with | none => .bad x.target.at_ 6 | some r => put1 { x.ins with imm := r.2 - p.code.length } x p) else put1 x.ins x p
def lay1 (f : List UInt8 → Option (Int × Int)) (x : PartZ) (p : Prog) : AsmR :=
 if x.kind = 1 then (if ((f x.name).getD (0, 0)).1 ≠ x.at_ then .bad x.at_ 6 else .ok p)
 else if x.kind = 3 then .ok { p with size := x.num }
 else if x.kind = 4 then (if x.num < 0 ∨ 255 < x.num then .bad x.at_ 8 else .ok { p with data := p.data ++ [x.num] })
 else if x.kind = 2 then ins1 f x p
 else .ok p
def LayOut (w : World) (c m n : Nat) (f : List UInt8 → Option (Int × Int)) (Z : AsmR) (en : Ending) (w' : World) : Prop :=
 match Z with
 | .bad a e => en = .returned (.tuple #[.int .i64 (a : Int), .int .i64 e]) ∧ Below c w w'
 | .ok p => en = .returned (.tuple #[.int .i64 0, .int .i64 0]) ∧ (∃ vc vd, Bld w' c m n f p vc vd) ∧ Below c w w'
theorem LayOut.bad {w w' : World} {c m n : Nat} {f : List UInt8 → Option (Int × Int)} {Z : AsmR} {en : Ending} {a : Nat} {e : Int} (h : Z = .bad a e) (he : en = .returned (.tuple #[.int .i64 (a : Int), .int .i64 e])) (hb : Below c w w') : LayOut w c m n f Z en w' := by
 subst h; exact ⟨he, hb⟩
theorem LayOut.ok {w w' : World} {c m n : Nat} {f : List UInt8 → Option (Int × Int)} {Z : AsmR} {en : Ending} {p : Prog} {vc vd : Value} (h : Z = .ok p) (he : en = .returned (.tuple #[.int .i64 0, .int .i64 0])) (hB : Bld w' c m n f p vc vd) (hb : Below c w w') : LayOut w c m n f Z en w' := by
 subst h; exact ⟨he, ⟨vc, vd, hB⟩, hb⟩
end Go.Proofs.YtcaibahniheohaaDoor.Words

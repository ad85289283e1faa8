/- Contracts of package asm's statement and lineEnd. -/
import Derived.Test.YtimdojeagkbgbaaDoorAsmLabel
import Derived.Deep.QuietTactic
import Derived.BigQuiet
namespace Go.Proofs.YtimdojeagkbgbaaDoor.Words
set_option maxRecDepth 100000
open Go.RowKit Go.Shelf Go.Lib
set_option linter.unusedVariables false
set_option linter.unusedSimpArgs false

theorem beq_dec (a b : List UInt8) : (a == b) = decide (a = b) := by
  by_cases h : a = b
  · rw [decide_eq_true h]; exact beq_iff_eq.2 h
  · rw [decide_eq_false h]; exact beq_eq_false_iff_ne.2 h
theorem txt_inj {a b : List UInt8} : txt a = txt b ↔ a = b :=
  ⟨fun h => by have := congrArg (fun s : ByteArray => s.data.toList) h; simpa using this, fun h => by rw [h]⟩
theorem op_idx (t : List UInt8) : ∀ (ns : List (List UInt8)) (i : Nat), Lib.idxFromS (ns.map txt) (txt t) i = opF t ns i - 1
  | [], i => rfl
  | n :: ns, i => by
    show (if txt n = txt t then (i : Int) else Lib.idxFromS (ns.map txt) (txt t) (i + 1)) = (if n = t then (i : Int) + 1 else opF t ns ((i : Int) + 1)) - 1
    by_cases h : n = t
    · rw [if_pos (txt_inj.2 h), if_pos h]; omega
    · rw [if_neg (fun e => h (txt_inj.1 e)), if_neg h, op_idx t ns (i + 1)]; rfl
theorem names_at {j : Nat} (hj : j < 41) : namesL[j]? = some (.string ((namesZ.map txt).getD j ByteArray.empty)) := by
  have h : namesZ[j]? = some namesZ[j] := List.getElem?_eq_getElem (show j < 41 from hj)
  unfold namesL
  rw [List.getElem?_map, h, List.getD_eq_getElem?_getD, List.getElem?_map, h]
  rfl
theorem index_any (t : List UInt8) (vn : Value) (B : Nat) (w : World) (hr : Row w B 1 vn 41 namesL) :
    Calls Tryd.prog 89 #[vn, .string (txt t)] w fun e w' => e = .returned (.int .i64 (opZ t - 1)) ∧ w = w' := by
  obtain ⟨A, c, rfl⟩ := hr.form
  obtain ⟨g, off, rfl, hg, hc⟩ := hr.at_ (by omega)
  refine (Tryd.slices_Index_string g off 41 c (namesZ.map txt) (txt t) w (by decide) (by omega) (fun j hj => hc j _ (names_at hj))).mono ?_
  rintro e w' ⟨rfl, rfl⟩
  refine ⟨?_, rfl⟩
  rw [show (namesZ.map txt).take 41 = namesZ.map txt from rfl]
  unfold Lib.idxOfS
  rw [op_idx t namesZ 0]
  rfl
theorem quiet_asm {P : Program} {f : FuncId} {args : Array Value} {w : World} {n : Nat} {v : Value} (h : Calls P f args (w.drewN n) fun e w' => e = .returned v ∧ w.drewN n = w') :
    Calls P f args (w.drewN n) fun e w'' => e = .returned v ∧ ∃ m, w'' = w.drewN m := h.mono fun _ _ ⟨he, hm⟩ => ⟨he, n, hm.symm⟩
theorem Shapes.belowB {w w' : World} {B : Nat} (h : Shapes w) (hb : Below B w w') (hg : 4 < B) : Shapes w' :=
  ⟨Nat.lt_of_lt_of_le h.1 hb.size, fun k t ht => below_cell hb hg (h.2 k t ht)⟩
theorem stmtT_kind {r : List Tok} (e : Nat) (h : (nextT r e).kind ≠ 1) : stmtT r = (true, r, []) := by
  cases r with
  | nil => rfl
  | cons t ts =>
    have h2 : t.kind ≠ 1 := h
    have e1 : stmtT (t :: ts) = if t.kind ≠ 1 then (true, t :: ts, []) else if 0 < opZ t.text then insT (opZ t.text) t.at_ ts else if t.text = sizeN then numT 3 ts else if t.text = byteN then bytesT ts else (false, t :: ts, []) := rfl
    rw [e1, if_pos h2]
theorem stmtT_one (t : Tok) (ts : List Tok) (h : t.kind = 1) : stmtT (t :: ts) = if 0 < opZ t.text then insT (opZ t.text) t.at_ ts else if t.text = sizeN then numT 3 ts else if t.text = byteN then bytesT ts else (false, t :: ts, []) := by
  have e1 : stmtT (t :: ts) = if t.kind ≠ 1 then (true, t :: ts, []) else if 0 < opZ t.text then insT (opZ t.text) t.at_ ts else if t.text = sizeN then numT 3 ts else if t.text = byteN then bytesT ts else (false, t :: ts, []) := rfl
  rw [e1, if_neg (fun e => e h)]
theorem AppOut.to {w X w' : World} {b e : Nat} {ps : List PartZ} {Z Z' : Bool × List Tok × List PartZ} {en : Ending} (h : AppOut X b e ps Z en w') (hb : Below b w X) (hz : Z' = Z) : AppOut w b e ps Z' en w' := by
  subst hz
  obtain ⟨h1, vp', h2, h3⟩ := h
  exact ⟨h1, vp', h2, hb.trans h3⟩

section
variable (w : World) (b e : Nat) (r : List Tok) (vp : Value) (ps : List PartZ)
set_option maxHeartbeats 4000000 in
theorem stmt_none (hP : Par w b e r vp ps) (h : (nextT r e).kind ≠ 1) :
    Calls Tryd.prog 71 #[.pointer (some ⟨b, 0, none⟩)] w (AppOut w b e ps (stmtT r)) := by
  have HP := Lib.hid hP
  have hlt := hP.lt
  have hN := next_any w b e r vp ps hP
  have HZ := Lib.hid (stmtT_kind e h)
  generalize nextT r e = t at *
  have h3 : (t.kind != 1) = true := by simpa using h
  clear hP h
  go_enter Tryd.func71, Tryd.ntmps71
  go_wp2_with fail
  refine hN.mono ?_; rintro en w1 ⟨rfl, hb1⟩
  have HB1 := Lib.hid hb1
  clear hb1
  go_wp2_with fail
  go_ret
  have hB := HB1.out.alloc HB1.out.size (.cells #[.int .i64 t.kind, .int .i64 t.num, .int .i64 (t.at_ : Int), .string (txt t.text)] 33)
  exact ⟨by rw [HZ.out]; rfl, vp, by rw [HZ.out]; simpa using HP.out.go hB, hB.mono (Nat.le_of_lt hlt)⟩
end

set_option maxHeartbeats 4000000 in
theorem stmt_ins (w : World) (b e : Nat) (t : Tok) (ts : List Tok) (vp : Value) (ps : List PartZ) (hP : Par w b e (t :: ts) vp ps) (hS : Shapes w) (hgb : 4 < b) (hps : ps.length + ts.length ≤ 1000000) (h : t.kind = 1) (hop : 0 < opZ t.text) :
    Calls Tryd.prog 71 #[.pointer (some ⟨b, 0, none⟩)] w (AppOut w b e ps (stmtT (t :: ts))) := by
  have HP := Lib.hid hP
  have HS := Lib.hid hS
  have HPS := Lib.hid hps
  have hlt := hP.lt
  have hN := next_any w b e (t :: ts) vp ps hP
  change Calls _ _ _ _ (fun en w' => en = .returned (tokV t) ∧ _) at hN
  have HZ := Lib.hid (stmtT_one t ts h)
  obtain ⟨o0, o1⟩ := opZ_range t.text
  obtain ⟨vt, vn, hbox, ht, hn, hp, htk⟩ := hP
  have z2 := hbox.cell (k := 2) rfl
  have HN := Lib.hid hn
  have h3 : (t.kind != 1) = false := by simp [h]
  have hb1s : (t.text == [115, 105, 122, 101]) = decide (t.text = sizeN) := beq_dec t.text sizeN
  have cI0 := Lib.hid (fun (y : World) (hy : Row y b 1 vn 41 namesL) => index_any t.text vn b y hy)
  have hb1b : (t.text == [98, 121, 116, 101]) = decide (t.text = byteN) := beq_dec t.text byteN
  rw [if_pos hop] at HZ
  generalize opZ t.text = op at *
  have q0 : decide (0 < op) = true := decide_eq_true hop
  clear hS hps h hbox ht hn hp htk
  go_enter Tryd.func71, Tryd.ntmps71
  go_wp2_with fail
  refine hN.mono ?_; rintro en w1 ⟨rfl, hb1⟩
  have HB1 := Lib.hid hb1
  have hlt1 := Nat.lt_of_lt_of_le hlt hb1.size
  have y2 := below_cell hb1 hlt z2
  have hB1 := hb1.alloc hb1.size (.cells #[.int .i64 t.kind, .int .i64 t.num, .int .i64 (t.at_ : Int), .string (txt t.text)] 33)
  have cI := fun n => cI0.out ((w1.alloc (.cells #[.int .i64 t.kind, .int .i64 t.num, .int .i64 (t.at_ : Int), .string (txt t.text)] 33)).drewN n) (((HN.out.below (hB1.mono (Nat.le_of_lt hlt)))).drewN n)
  have HX0 : Hid (Below b w (w1.alloc (.cells #[.int .i64 t.kind, .int .i64 t.num, .int .i64 (t.at_ : Int), .string (txt t.text)] 33))) := hB1.mono (Nat.le_of_lt hlt)
  have HP1 : Hid (Par (w1.alloc (.cells #[.int .i64 t.kind, .int .i64 t.num, .int .i64 (t.at_ : Int), .string (txt t.text)] 33)) b e (t :: ts) vp ps) := HP.out.go hB1
  clear hb1 z2 hB1
  go_wp2_with fail
  go_quiet ((go_at_call 89; refine quiet_asm (cI _)))
  go_wp2_with fail
  refine (skip_any _ _ _ _ _ _ _ (HP1.out.drewN _)).mono ?_; rintro en w3 ⟨rfl, hp3, hk3⟩
  have hlx := HP1.out.lt
  have HP3 := Lib.hid hp3
  have HX3 : Hid (Below b w w3) := (HX0.out.trans (Below.drewN_ (Below.refl _ _) _)).trans (hk3.below (Nat.le_of_lt hlx) (fun j hj => by omega))
  have HTA : Hid (w3.cell? ⟨w1.heap.size, 2, none⟩ = some (.int .i64 (t.at_ : Int))) := hk3.cell (by show w1.heap.size < (w1.alloc _).heap.size; simp) (fun e => by omega) (by show (w1.alloc _).cell? _ = _; go_simp)
  have hsz3 : w1.heap.size < w3.heap.size := by have := hk3.size; have h2 : (w1.alloc (.cells #[.int .i64 t.kind, .int .i64 t.num, .int .i64 (t.at_ : Int), .string (txt t.text)] 33)).heap.size = w1.heap.size + 1 := (by simp); have h3 : w1.heap.size + 1 ≤ w3.heap.size := Nat.le_trans (Nat.le_of_eq h2.symm) this; omega
  have a2 := HTA.out
  clear hp3 hk3
  go_wp2_with fail
  refine (instruction_any op t.at_ w3 b e ts vp ps HP3.out (HS.out.belowB HX3.out hgb) hgb HPS.out).mono ?_
  rintro en w4 hA
  have HA := Lib.hid hA
  obtain ⟨rfl, _⟩ := hA
  go_wp2_with fail
  go_ret
  exact HA.out.to HX3.out HZ.out

set_option maxHeartbeats 4000000 in
theorem stmt_size (w : World) (b e : Nat) (t : Tok) (ts : List Tok) (vp : Value) (ps : List PartZ) (hP : Par w b e (t :: ts) vp ps) (hS : Shapes w) (hgb : 4 < b) (hps : ps.length + ts.length ≤ 1000000) (h : t.kind = 1) (hop : ¬ 0 < opZ t.text) (htx : t.text = sizeN) :
    Calls Tryd.prog 71 #[.pointer (some ⟨b, 0, none⟩)] w (AppOut w b e ps (stmtT (t :: ts))) := by
  have HP := Lib.hid hP
  have HS := Lib.hid hS
  have HPS := Lib.hid hps
  have hlt := hP.lt
  have hN := next_any w b e (t :: ts) vp ps hP
  change Calls _ _ _ _ (fun en w' => en = .returned (tokV t) ∧ _) at hN
  have HZ := Lib.hid (stmtT_one t ts h)
  obtain ⟨o0, o1⟩ := opZ_range t.text
  obtain ⟨vt, vn, hbox, ht, hn, hp, htk⟩ := hP
  have z2 := hbox.cell (k := 2) rfl
  have HN := Lib.hid hn
  have h3 : (t.kind != 1) = false := by simp [h]
  have hb1s : (t.text == [115, 105, 122, 101]) = decide (t.text = sizeN) := beq_dec t.text sizeN
  have cI0 := Lib.hid (fun (y : World) (hy : Row y b 1 vn 41 namesL) => index_any t.text vn b y hy)
  have hb1b : (t.text == [98, 121, 116, 101]) = decide (t.text = byteN) := beq_dec t.text byteN
  rw [if_neg hop, if_pos htx] at HZ
  generalize opZ t.text = op at *
  have q0 : decide (0 < op) = false := decide_eq_false hop
  rw [decide_eq_true htx] at hb1s
  clear hb1b htx
  clear hS hps h hbox ht hn hp htk
  go_enter Tryd.func71, Tryd.ntmps71
  go_wp2_with fail
  refine hN.mono ?_; rintro en w1 ⟨rfl, hb1⟩
  have HB1 := Lib.hid hb1
  have hlt1 := Nat.lt_of_lt_of_le hlt hb1.size
  have y2 := below_cell hb1 hlt z2
  have hB1 := hb1.alloc hb1.size (.cells #[.int .i64 t.kind, .int .i64 t.num, .int .i64 (t.at_ : Int), .string (txt t.text)] 33)
  have cI := fun n => cI0.out ((w1.alloc (.cells #[.int .i64 t.kind, .int .i64 t.num, .int .i64 (t.at_ : Int), .string (txt t.text)] 33)).drewN n) (((HN.out.below (hB1.mono (Nat.le_of_lt hlt)))).drewN n)
  have HX0 : Hid (Below b w (w1.alloc (.cells #[.int .i64 t.kind, .int .i64 t.num, .int .i64 (t.at_ : Int), .string (txt t.text)] 33))) := hB1.mono (Nat.le_of_lt hlt)
  have HP1 : Hid (Par (w1.alloc (.cells #[.int .i64 t.kind, .int .i64 t.num, .int .i64 (t.at_ : Int), .string (txt t.text)] 33)) b e (t :: ts) vp ps) := HP.out.go hB1
  clear hb1 z2 hB1
  go_wp2_with fail
  go_quiet ((go_at_call 89; refine quiet_asm (cI _)))
  go_wp2_with fail
  refine (skip_any _ _ _ _ _ _ _ (HP1.out.drewN _)).mono ?_; rintro en w3 ⟨rfl, hp3, hk3⟩
  have hlx := HP1.out.lt
  have HP3 := Lib.hid hp3
  have HX3 : Hid (Below b w w3) := (HX0.out.trans (Below.drewN_ (Below.refl _ _) _)).trans (hk3.below (Nat.le_of_lt hlx) (fun j hj => by omega))
  have HTA : Hid (w3.cell? ⟨w1.heap.size, 2, none⟩ = some (.int .i64 (t.at_ : Int))) := hk3.cell (by show w1.heap.size < (w1.alloc _).heap.size; simp) (fun e => by omega) (by show (w1.alloc _).cell? _ = _; go_simp)
  have hsz3 : w1.heap.size < w3.heap.size := by have := hk3.size; have h2 : (w1.alloc (.cells #[.int .i64 t.kind, .int .i64 t.num, .int .i64 (t.at_ : Int), .string (txt t.text)] 33)).heap.size = w1.heap.size + 1 := (by simp); have h3 : w1.heap.size + 1 ≤ w3.heap.size := Nat.le_trans (Nat.le_of_eq h2.symm) this; omega
  have a2 := HTA.out
  clear hp3 hk3
  go_wp2_with fail
  refine (asmNumber_any 3 w3 b e ts vp ps HP3.out (by have := HPS.out; omega)).mono ?_
  rintro en w4 hA
  have HA := Lib.hid hA
  obtain ⟨rfl, _⟩ := hA
  go_wp2_with fail
  go_ret
  exact HA.out.to HX3.out HZ.out

set_option maxHeartbeats 4000000 in
theorem stmt_byte (w : World) (b e : Nat) (t : Tok) (ts : List Tok) (vp : Value) (ps : List PartZ) (hP : Par w b e (t :: ts) vp ps) (hS : Shapes w) (hgb : 4 < b) (hps : ps.length + ts.length ≤ 1000000) (h : t.kind = 1) (hop : ¬ 0 < opZ t.text) (htx : t.text ≠ sizeN) (htb : t.text = byteN) :
    Calls Tryd.prog 71 #[.pointer (some ⟨b, 0, none⟩)] w (AppOut w b e ps (stmtT (t :: ts))) := by
  have HP := Lib.hid hP
  have HS := Lib.hid hS
  have HPS := Lib.hid hps
  have hlt := hP.lt
  have hN := next_any w b e (t :: ts) vp ps hP
  change Calls _ _ _ _ (fun en w' => en = .returned (tokV t) ∧ _) at hN
  have HZ := Lib.hid (stmtT_one t ts h)
  obtain ⟨o0, o1⟩ := opZ_range t.text
  obtain ⟨vt, vn, hbox, ht, hn, hp, htk⟩ := hP
  have z2 := hbox.cell (k := 2) rfl
  have HN := Lib.hid hn
  have h3 : (t.kind != 1) = false := by simp [h]
  have hb1s : (t.text == [115, 105, 122, 101]) = decide (t.text = sizeN) := beq_dec t.text sizeN
  have cI0 := Lib.hid (fun (y : World) (hy : Row y b 1 vn 41 namesL) => index_any t.text vn b y hy)
  have hb1b : (t.text == [98, 121, 116, 101]) = decide (t.text = byteN) := beq_dec t.text byteN
  rw [if_neg hop, if_neg htx, if_pos htb] at HZ
  generalize opZ t.text = op at *
  have q0 : decide (0 < op) = false := decide_eq_false hop
  rw [decide_eq_false htx] at hb1s
  rw [decide_eq_true htb] at hb1b
  clear htx htb
  clear hS hps h hbox ht hn hp htk
  go_enter Tryd.func71, Tryd.ntmps71
  go_wp2_with fail
  refine hN.mono ?_; rintro en w1 ⟨rfl, hb1⟩
  have HB1 := Lib.hid hb1
  have hlt1 := Nat.lt_of_lt_of_le hlt hb1.size
  have y2 := below_cell hb1 hlt z2
  have hB1 := hb1.alloc hb1.size (.cells #[.int .i64 t.kind, .int .i64 t.num, .int .i64 (t.at_ : Int), .string (txt t.text)] 33)
  have cI := fun n => cI0.out ((w1.alloc (.cells #[.int .i64 t.kind, .int .i64 t.num, .int .i64 (t.at_ : Int), .string (txt t.text)] 33)).drewN n) (((HN.out.below (hB1.mono (Nat.le_of_lt hlt)))).drewN n)
  have HX0 : Hid (Below b w (w1.alloc (.cells #[.int .i64 t.kind, .int .i64 t.num, .int .i64 (t.at_ : Int), .string (txt t.text)] 33))) := hB1.mono (Nat.le_of_lt hlt)
  have HP1 : Hid (Par (w1.alloc (.cells #[.int .i64 t.kind, .int .i64 t.num, .int .i64 (t.at_ : Int), .string (txt t.text)] 33)) b e (t :: ts) vp ps) := HP.out.go hB1
  clear hb1 z2 hB1
  go_wp2_with fail
  go_quiet ((go_at_call 89; refine quiet_asm (cI _)))
  go_wp2_with fail
  refine (skip_any _ _ _ _ _ _ _ (HP1.out.drewN _)).mono ?_; rintro en w3 ⟨rfl, hp3, hk3⟩
  have hlx := HP1.out.lt
  have HP3 := Lib.hid hp3
  have HX3 : Hid (Below b w w3) := (HX0.out.trans (Below.drewN_ (Below.refl _ _) _)).trans (hk3.below (Nat.le_of_lt hlx) (fun j hj => by omega))
  have HTA : Hid (w3.cell? ⟨w1.heap.size, 2, none⟩ = some (.int .i64 (t.at_ : Int))) := hk3.cell (by show w1.heap.size < (w1.alloc _).heap.size; simp) (fun e => by omega) (by show (w1.alloc _).cell? _ = _; go_simp)
  have hsz3 : w1.heap.size < w3.heap.size := by have := hk3.size; have h2 : (w1.alloc (.cells #[.int .i64 t.kind, .int .i64 t.num, .int .i64 (t.at_ : Int), .string (txt t.text)] 33)).heap.size = w1.heap.size + 1 := (by simp); have h3 : w1.heap.size + 1 ≤ w3.heap.size := Nat.le_trans (Nat.le_of_eq h2.symm) this; omega
  have a2 := HTA.out
  clear hp3 hk3
  go_wp2_with fail
  refine (byteList_any w3 b e ts vp ps HP3.out HPS.out).mono ?_
  rintro en w4 hA
  have HA := Lib.hid hA
  obtain ⟨rfl, _⟩ := hA
  go_wp2_with fail
  go_ret
  exact HA.out.to HX3.out HZ.out

set_option maxHeartbeats 4000000 in
theorem stmt_other (w : World) (b e : Nat) (t : Tok) (ts : List Tok) (vp : Value) (ps : List PartZ) (hP : Par w b e (t :: ts) vp ps) (hS : Shapes w) (hgb : 4 < b) (hps : ps.length + ts.length ≤ 1000000) (h : t.kind = 1) (hop : ¬ 0 < opZ t.text) (htx : t.text ≠ sizeN) (htb : t.text ≠ byteN) :
    Calls Tryd.prog 71 #[.pointer (some ⟨b, 0, none⟩)] w (AppOut w b e ps (stmtT (t :: ts))) := by
  have HP := Lib.hid hP
  have HS := Lib.hid hS
  have HPS := Lib.hid hps
  have hlt := hP.lt
  have hN := next_any w b e (t :: ts) vp ps hP
  change Calls _ _ _ _ (fun en w' => en = .returned (tokV t) ∧ _) at hN
  have HZ := Lib.hid (stmtT_one t ts h)
  obtain ⟨o0, o1⟩ := opZ_range t.text
  obtain ⟨vt, vn, hbox, ht, hn, hp, htk⟩ := hP
  have z2 := hbox.cell (k := 2) rfl
  have HN := Lib.hid hn
  have h3 : (t.kind != 1) = false := by simp [h]
  have hb1s : (t.text == [115, 105, 122, 101]) = decide (t.text = sizeN) := beq_dec t.text sizeN
  have cI0 := Lib.hid (fun (y : World) (hy : Row y b 1 vn 41 namesL) => index_any t.text vn b y hy)
  have hb1b : (t.text == [98, 121, 116, 101]) = decide (t.text = byteN) := beq_dec t.text byteN
  rw [if_neg hop, if_neg htx, if_neg htb] at HZ
  generalize opZ t.text = op at *
  have q0 : decide (0 < op) = false := decide_eq_false hop
  rw [decide_eq_false htx] at hb1s
  rw [decide_eq_false htb] at hb1b
  clear htx htb
  clear hS hps h hbox ht hn hp htk
  go_enter Tryd.func71, Tryd.ntmps71
  go_wp2_with fail
  refine hN.mono ?_; rintro en w1 ⟨rfl, hb1⟩
  have HB1 := Lib.hid hb1
  have hlt1 := Nat.lt_of_lt_of_le hlt hb1.size
  have y2 := below_cell hb1 hlt z2
  have hB1 := hb1.alloc hb1.size (.cells #[.int .i64 t.kind, .int .i64 t.num, .int .i64 (t.at_ : Int), .string (txt t.text)] 33)
  have cI := fun n => cI0.out ((w1.alloc (.cells #[.int .i64 t.kind, .int .i64 t.num, .int .i64 (t.at_ : Int), .string (txt t.text)] 33)).drewN n) (((HN.out.below (hB1.mono (Nat.le_of_lt hlt)))).drewN n)
  have HX0 : Hid (Below b w (w1.alloc (.cells #[.int .i64 t.kind, .int .i64 t.num, .int .i64 (t.at_ : Int), .string (txt t.text)] 33))) := hB1.mono (Nat.le_of_lt hlt)
  have HP1 : Hid (Par (w1.alloc (.cells #[.int .i64 t.kind, .int .i64 t.num, .int .i64 (t.at_ : Int), .string (txt t.text)] 33)) b e (t :: ts) vp ps) := HP.out.go hB1
  clear hb1 z2 hB1
  go_wp2_with fail
  go_quiet ((go_at_call 89; refine quiet_asm (cI _)))
  go_wp2_with fail
  go_ret
  exact ⟨by rw [HZ.out]; rfl, vp, by rw [HZ.out]; simpa using HP1.out.drewN _, HX0.out.trans (Below.drewN_ (Below.refl _ _) _)⟩

theorem statement_any (w : World) (b e : Nat) (r : List Tok) (vp : Value) (ps : List PartZ) (hP : Par w b e r vp ps) (hS : Shapes w) (hgb : 4 < b) (hps : ps.length + r.length ≤ 1000000) :
    Calls Tryd.prog 71 #[.pointer (some ⟨b, 0, none⟩)] w (AppOut w b e ps (stmtT r)) := by
  by_cases hk : (nextT r e).kind = 1
  · rcases r with _ | ⟨t, ts⟩
    · exact absurd hk (by simp [nextT])
    · have hk2 : t.kind = 1 := hk
      have hps2 : ps.length + ts.length ≤ 1000000 := by simp at hps; omega
      by_cases hop : 0 < opZ t.text
      · exact stmt_ins w b e t ts vp ps hP hS hgb hps2 hk2 hop
      by_cases htx : t.text = sizeN
      · exact stmt_size w b e t ts vp ps hP hS hgb hps2 hk2 hop htx
      by_cases htb : t.text = byteN
      · exact stmt_byte w b e t ts vp ps hP hS hgb hps2 hk2 hop htx htb
      · exact stmt_other w b e t ts vp ps hP hS hgb hps2 hk2 hop htx htb
  · exact stmt_none w b e r vp ps hP hk
end Go.Proofs.YtimdojeagkbgbaaDoor.Words

/- Several texts in one: RefStepB2, RefStepC1. -/
import Derived.Test.YtjbobihiigeapaaG03
import Derived.Test.YtjbobihiigeapaaG02
import Derived.Test.YtjbobihiigeapaaG09
import Derived.Test.YtjbobihiigeapaaG11
import Derived.Test.YtjbobihiigeapaaG04
import Derived.Test.YtjbobihiigeapaaG12

/- Contract of the document's own Step. -/
namespace Go.Proofs.Ytjbobihiigeapaa.Words
set_option maxRecDepth 100000
open Go.RowKit
set_option linter.unusedVariables false


set_option maxRecDepth 100000 in
set_option maxHeartbeats 1000000 in
theorem refStep_past (cb co c d : Nat) (D : Option Addr) (p : Prog) (M U : Option Addr) (m u : Nat) (r : Res) (w : World) (k : Nat) (op imm : Int) (id ia ib : Nat) (hp : ProgV w w.heap.size (.slice (some ⟨cb, co, none⟩) p.code.length c) (.slice D p.data.length d) p) (hr : ResV w w.heap.size (.slice M r.mem.length m) (.slice U r.ws.length u) r) (hm : r.mem.length ≤ 140737488355328) (hw : r.ws.length ≤ 1000000000000) (fr : r.Fits) (h0 : r.e = 0) (h1 : p.right = true) (h2 : (r.mem.length : Int) = p.size) (hi : p.code[k]? = some ⟨op, (id : Int), (ia : Int), (ib : Int), imm⟩) (hri : rightB ⟨op, (id : Int), (ia : Int), (ib : Int), imm⟩ = true) (bd : id ≤ 15) (ba : ia ≤ 15) (bb : ib ≤ 15) (bi : -8192 ≤ imm ∧ imm ≤ 8191) (hform : formZ op = 6) (ht : takenB op (valZ r.regs ia) (valZ r.regs ib) = false) :
    Calls Try.prog 15 #[.agg #[.slice (some ⟨cb, co, none⟩) p.code.length c, .int .i64 p.size, .slice D p.data.length d], .agg (resL r (.slice M r.mem.length m) (.slice U r.ws.length u)).toArray, .int .i64 (k : Int)] w fun e w' => ∃ vm' vw', e = .returned (.tuple #[.agg (resL ((bumpZ r, (k : Int) + 1)).1 vm' vw').toArray, .int .i64 ((bumpZ r, (k : Int) + 1)).2]) ∧ ResOwn w' w.heap.size vm' vw' ((bumpZ r, (k : Int) + 1)).1 ∧ Below w.heap.size w w' := by
  have HTK := Lib.hid ht
  clear ht
  have q0 : (r.e != 0) = false := by simp; exact h0
  have q2 : ((r.mem.length : Int) != p.size) = false := by simp; exact h2
  have HRT : Hid (p.right = true) := h1
  have hc2 : p.code.length ≤ 2000 := by have h1' := h1; unfold Prog.right at h1'; simp only [Bool.and_eq_true, decide_eq_true_eq] at h1'; omega
  have hkl : k < p.code.length := (List.getElem?_eq_some_iff.1 hi).1
  have hk0 : (0 : Int) ≤ k := by omega
  have hk1 : (k : Int) < p.code.length := by omega
  have HI := Lib.hid (fun (x : World) (h : Below w.heap.size w x) => (hp.code.below h).ins hi)
  have HFO : Hid (formZ op = 6) := hform
  have FR := Lib.hid fr
  have va0 := valZ_range fr.2.2.2.2.2.1 ia
  have vb0 := valZ_range fr.2.2.2.2.2.1 ib
  obtain ⟨va, hva⟩ : ∃ v, v = valZ r.regs ia := ⟨_, rfl⟩
  obtain ⟨vb, hvb⟩ : ∃ v, v = valZ r.regs ib := ⟨_, rfl⟩
  rw [← hva] at va0
  rw [← hvb] at vb0
  obtain ⟨adr, hadr⟩ : ∃ a, a = (va + imm) % 4294967296 := ⟨_, rfl⟩
  have had : (va + imm % 4294967296) % 4294967296 = adr := by rw [hadr]; omega
  have ad0 : 0 ≤ adr ∧ adr ≤ 4294967295 := by omega
  have HVA := Lib.hid hva
  have HVB := Lib.hid hvb
  have HAD := Lib.hid hadr
  obtain ⟨bi0, bi1⟩ := bi
  clear h0 h1 h2 fr hva hvb hadr hform hi
  obtain ⟨u1, u2⟩ := hp.code.cap
  obtain ⟨u3, u4⟩ := hp.data.cap
  have h16 := hr.regs
  have hs : (((w.alloc (.cells #[.slice (some ⟨cb, co, none⟩) p.code.length c, .int .i64 p.size, .slice D p.data.length d] 25)).alloc (.cells (resL r (.slice M r.mem.length m) (.slice U r.ws.length u)).toArray 32)).alloc (.cells #[.int .i64 0, .int .i64 0, .int .i64 0, .int .i64 0, .int .i64 0, .int .u32 0, .int .u32 0, .int .u32 0, .int .u32 0, .int .u32 0, .int .u32 0, .int .u32 0, .int .u32 0, .int .u32 0, .int .u32 0, .int .u32 0, .int .u32 0, .int .u32 0, .int .u32 0, .int .u32 0, .int .u32 0, .slice none 0 0, .slice none 0 0] 32)).heap.size = w.heap.size + 3 := by simp
  have HB := Lib.hid ((((Below.refl w.heap.size w).alloc (Nat.le_refl _) (.cells #[.slice (some ⟨cb, co, none⟩) p.code.length c, .int .i64 p.size, .slice D p.data.length d] 25)).alloc (by simp) (.cells (resL r (.slice M r.mem.length m) (.slice U r.ws.length u)).toArray 32)).alloc (by simp; omega) (.cells #[.int .i64 0, .int .i64 0, .int .i64 0, .int .i64 0, .int .i64 0, .int .u32 0, .int .u32 0, .int .u32 0, .int .u32 0, .int .u32 0, .int .u32 0, .int .u32 0, .int .u32 0, .int .u32 0, .int .u32 0, .int .u32 0, .int .u32 0, .int .u32 0, .int .u32 0, .int .u32 0, .int .u32 0, .slice none 0 0, .slice none 0 0] 32))
  have HV := Lib.hid (((hr.below HB.out).more (show w.heap.size ≤ (((w.alloc (.cells #[.slice (some ⟨cb, co, none⟩) p.code.length c, .int .i64 p.size, .slice D p.data.length d] 25)).alloc (.cells (resL r (.slice M r.mem.length m) (.slice U r.ws.length u)).toArray 32)).alloc (.cells #[.int .i64 0, .int .i64 0, .int .i64 0, .int .i64 0, .int .i64 0, .int .u32 0, .int .u32 0, .int .u32 0, .int .u32 0, .int .u32 0, .int .u32 0, .int .u32 0, .int .u32 0, .int .u32 0, .int .u32 0, .int .u32 0, .int .u32 0, .int .u32 0, .int .u32 0, .int .u32 0, .int .u32 0, .slice none 0 0, .slice none 0 0] 32)).heap.size by rw [hs]; omega)))
  have HP0 := Lib.hid (fun (x : World) (h : Below w.heap.size w x) => hp.below h)
  have e0 : Hid ((((w.alloc (.cells #[.slice (some ⟨cb, co, none⟩) p.code.length c, .int .i64 p.size, .slice D p.data.length d] 25)).alloc (.cells (resL r (.slice M r.mem.length m) (.slice U r.ws.length u)).toArray 32)).alloc (.cells #[.int .i64 0, .int .i64 0, .int .i64 0, .int .i64 0, .int .i64 0, .int .u32 0, .int .u32 0, .int .u32 0, .int .u32 0, .int .u32 0, .int .u32 0, .int .u32 0, .int .u32 0, .int .u32 0, .int .u32 0, .int .u32 0, .int .u32 0, .int .u32 0, .int .u32 0, .int .u32 0, .int .u32 0, .slice none 0 0, .slice none 0 0] 32)).cell? ⟨w.heap.size, 0, none⟩ = some (.slice (some ⟨cb, co, none⟩) p.code.length c)) := by show _ = _; go_simp
  have e1 : Hid ((((w.alloc (.cells #[.slice (some ⟨cb, co, none⟩) p.code.length c, .int .i64 p.size, .slice D p.data.length d] 25)).alloc (.cells (resL r (.slice M r.mem.length m) (.slice U r.ws.length u)).toArray 32)).alloc (.cells #[.int .i64 0, .int .i64 0, .int .i64 0, .int .i64 0, .int .i64 0, .int .u32 0, .int .u32 0, .int .u32 0, .int .u32 0, .int .u32 0, .int .u32 0, .int .u32 0, .int .u32 0, .int .u32 0, .int .u32 0, .int .u32 0, .int .u32 0, .int .u32 0, .int .u32 0, .int .u32 0, .int .u32 0, .slice none 0 0, .slice none 0 0] 32)).cell? ⟨w.heap.size, 1, none⟩ = some (.int .i64 p.size)) := by show _ = _; go_simp
  have e2 : Hid ((((w.alloc (.cells #[.slice (some ⟨cb, co, none⟩) p.code.length c, .int .i64 p.size, .slice D p.data.length d] 25)).alloc (.cells (resL r (.slice M r.mem.length m) (.slice U r.ws.length u)).toArray 32)).alloc (.cells #[.int .i64 0, .int .i64 0, .int .i64 0, .int .i64 0, .int .i64 0, .int .u32 0, .int .u32 0, .int .u32 0, .int .u32 0, .int .u32 0, .int .u32 0, .int .u32 0, .int .u32 0, .int .u32 0, .int .u32 0, .int .u32 0, .int .u32 0, .int .u32 0, .int .u32 0, .int .u32 0, .int .u32 0, .slice none 0 0, .slice none 0 0] 32)).cell? ⟨w.heap.size, 2, none⟩ = some (.slice D p.data.length d)) := by show _ = _; go_simp
  have B0 : Hid (Box (((w.alloc (.cells #[.slice (some ⟨cb, co, none⟩) p.code.length c, .int .i64 p.size, .slice D p.data.length d] 25)).alloc (.cells (resL r (.slice M r.mem.length m) (.slice U r.ws.length u)).toArray 32)).alloc (.cells #[.int .i64 0, .int .i64 0, .int .i64 0, .int .i64 0, .int .i64 0, .int .u32 0, .int .u32 0, .int .u32 0, .int .u32 0, .int .u32 0, .int .u32 0, .int .u32 0, .int .u32 0, .int .u32 0, .int .u32 0, .int .u32 0, .int .u32 0, .int .u32 0, .int .u32 0, .int .u32 0, .int .u32 0, .slice none 0 0, .slice none 0 0] 32)) (w.heap.size + 1) (resL r (.slice M r.mem.length m) (.slice U r.ws.length u))) := by
    have := ((Box.new (w.alloc (.cells #[.slice (some ⟨cb, co, none⟩) p.code.length c, .int .i64 p.size, .slice D p.data.length d] 25)) (resL r (.slice M r.mem.length m) (.slice U r.ws.length u)) 32).alloc (.cells #[.int .i64 0, .int .i64 0, .int .i64 0, .int .i64 0, .int .i64 0, .int .u32 0, .int .u32 0, .int .u32 0, .int .u32 0, .int .u32 0, .int .u32 0, .int .u32 0, .int .u32 0, .int .u32 0, .int .u32 0, .int .u32 0, .int .u32 0, .int .u32 0, .int .u32 0, .int .u32 0, .int .u32 0, .slice none 0 0, .slice none 0 0] 32))
    have e : (w.alloc (.cells #[.slice (some ⟨cb, co, none⟩) p.code.length c, .int .i64 p.size, .slice D p.data.length d] 25)).heap.size = w.heap.size + 1 := by simp
    rw [e] at this
    exact this
  have Q0 : Hid (Box (((w.alloc (.cells #[.slice (some ⟨cb, co, none⟩) p.code.length c, .int .i64 p.size, .slice D p.data.length d] 25)).alloc (.cells (resL r (.slice M r.mem.length m) (.slice U r.ws.length u)).toArray 32)).alloc (.cells #[.int .i64 0, .int .i64 0, .int .i64 0, .int .i64 0, .int .i64 0, .int .u32 0, .int .u32 0, .int .u32 0, .int .u32 0, .int .u32 0, .int .u32 0, .int .u32 0, .int .u32 0, .int .u32 0, .int .u32 0, .int .u32 0, .int .u32 0, .int .u32 0, .int .u32 0, .int .u32 0, .int .u32 0, .slice none 0 0, .slice none 0 0] 32)) (w.heap.size + 2) (resL noRes (.slice none 0 0) (.slice none 0 0))) := by
    have := Box.new ((w.alloc (.cells #[.slice (some ⟨cb, co, none⟩) p.code.length c, .int .i64 p.size, .slice D p.data.length d] 25)).alloc (.cells (resL r (.slice M r.mem.length m) (.slice U r.ws.length u)).toArray 32)) (resL noRes (.slice none 0 0) (.slice none 0 0)) 32
    have e : ((w.alloc (.cells #[.slice (some ⟨cb, co, none⟩) p.code.length c, .int .i64 p.size, .slice D p.data.length d] 25)).alloc (.cells (resL r (.slice M r.mem.length m) (.slice U r.ws.length u)).toArray 32)).heap.size = w.heap.size + 2 := by simp
    rw [e] at this
    exact this
  clear hp hr
  go_enter Try.func15, Try.ntmps15
  go_wp2_with (refine wpList_load_box rfl 32 (.tmp 4) rfl (w.heap.size + 1) 0 rfl (resL r (.slice M r.mem.length m) (.slice U r.ws.length u)) (resL r (.slice M r.mem.length m) (.slice U r.ws.length u)) B0.out (fun j v hv => by rw [Nat.zero_add]; exact hv) _ Try.underlying32 rfl 23 info_res (resL_len h16) ?_)
  generalize (((w.alloc (.cells #[.slice (some ⟨cb, co, none⟩) p.code.length c, .int .i64 p.size, .slice D p.data.length d] 25)).alloc (.cells (resL r (.slice M r.mem.length m) (.slice U r.ws.length u)).toArray 32)).alloc (.cells #[.int .i64 0, .int .i64 0, .int .i64 0, .int .i64 0, .int .i64 0, .int .u32 0, .int .u32 0, .int .u32 0, .int .u32 0, .int .u32 0, .int .u32 0, .int .u32 0, .int .u32 0, .int .u32 0, .int .u32 0, .int .u32 0, .int .u32 0, .int .u32 0, .int .u32 0, .int .u32 0, .int .u32 0, .slice none 0 0, .slice none 0 0] 32)) = W0 at *
  refine (refCopy_any r _ _ W0 HV.out hm hw).mono ?_; rintro e w1 ⟨vm1, vw1, rfl, hO1, hb1⟩
  obtain ⟨M2, m2, rfl⟩ := (Row.of_own hO1.mem).form
  obtain ⟨U2, n2, rfl⟩ := (Row.of_own hO1.ws).form
  rw [hs] at hO1 hb1
  have B1 := Lib.hid (B0.out.below hb1 (by omega))
  have Q1 := Lib.hid (Q0.out.below hb1 (by omega))
  have O1 := Lib.hid hO1
  have b1 := Lib.hid (HB.out.trans (hb1.mono (show w.heap.size ≤ w.heap.size + 3 by omega)))
  clear hO1
  go_wp2_with (refine wpList_store_box rfl 32 (.tmp 4) (.tmp 19) rfl (w.heap.size + 1) 0 (resL r (.slice M2 r.mem.length m2) (.slice U2 r.ws.length n2)) rfl rfl (resL r (.slice M r.mem.length m) (.slice U r.ws.length u)) B1.out (by rw [resL_len h16, resL_len h16]; exact Nat.le_refl _) 23 info_res (resL_len h16) (resL_one rfl rfl) ?_; intro w2 B2' hg2; rw [splice_whole _ _ (by rw [resL_len h16, resL_len h16])] at B2'; have hz1 : w.heap.size + 3 ≤ w1.heap.size := (by have := hb1.size; omega); have b2' := Lib.hid (show Below w.heap.size w w2 from Below.grown b1.out hg2 (Nat.le_trans (Nat.le_add_right _ 3) hz1) (fun k hk => grown_ge hk (Nat.le_succ _))); have B2 := Lib.hid B2'; have Q2 := Lib.hid (Q1.out.grown hg2 (fun h => by injection h with h; omega)); have O2 := Lib.hid (O1.out.grown hg2 (by omega)); have p0 := cell_over hb1 hg2 (show w.heap.size < w.heap.size + 3 by omega) hz1 (show w.heap.size ≠ w.heap.size + 1 by omega) e0.out; have p1 := cell_over hb1 hg2 (show w.heap.size < w.heap.size + 3 by omega) hz1 (show w.heap.size ≠ w.heap.size + 1 by omega) e1.out; have p2 := cell_over hb1 hg2 (show w.heap.size < w.heap.size + 3 by omega) hz1 (show w.heap.size ≠ w.heap.size + 1 by omega) e2.out; have P0h := Lib.hid p0; have P1h := Lib.hid p1; have P2h := Lib.hid p2; have z0 := B2'.cell resL_0; have z21 := B2'.cell (resL_21 h16); have g2' := Lib.hid hg2)
  have hz2 : w.heap.size < w2.heap.size := by have := Q2.out.lt; omega
  have hz2' : w.heap.size + 1 < w2.heap.size := by have := Q2.out.lt; omega
  have hz2'' : w.heap.size + 2 < w2.heap.size := Q2.out.lt
  clear p0 p1 p2 z0 z21 hg2
  refine (refRight_any (some ⟨cb, co, none⟩) c p.size D p.data.length d p.code _ (((HP0.out _ b2'.out).code).more (Nat.le_of_lt hz2)) u3 u4).mono ?_; rintro e w3 ⟨rfl, hb3⟩
  rw [show rightZ p.code p.size p.data.length = true from HRT.out]
  have k3 : Kept w2 w3 := hb3
  clear hb3
  have p0 := Kept.cell k3 hz2 P0h.out
  have p1 := Kept.cell k3 hz2 P1h.out
  have p2 := Kept.cell k3 hz2 P2h.out
  have z0 := ((B2.out).below k3 hz2').cell resL_0
  have z21 := ((B2.out).below k3 hz2').cell (resL_21 h16)
  obtain ⟨y0, y1, y2, y3, y4⟩ := HI.out _ (b2'.out.trans (k3.mono (Nat.le_of_lt hz2)))
  go_wp2_with (refine wpList_load_box rfl 29 (.tmp 57) rfl (w.heap.size + 1) 5 rfl (resL r (.slice M2 r.mem.length m2) (.slice U2 r.ws.length n2)) (r.regs.map (Value.int .u32)) ((B2.out.below k3 hz2').alloc (.cells #[.int .i64 op, .int .i64 (id : Int), .int .i64 (ia : Int), .int .i64 (ib : Int), .int .i64 imm] 51)) (resL_regs h16) _ Try.underlying29 rfl 16 info_rregs (by simp [h16]) ?_)
  have i0 : (w3.alloc (.cells #[.int .i64 op, .int .i64 (id : Int), .int .i64 (ia : Int), .int .i64 (ib : Int), .int .i64 imm] 51)).cell? ⟨w3.heap.size, 0, none⟩ = some (.int .i64 op) := by go_simp
  have i1 : (w3.alloc (.cells #[.int .i64 op, .int .i64 (id : Int), .int .i64 (ia : Int), .int .i64 (ib : Int), .int .i64 imm] 51)).cell? ⟨w3.heap.size, 1, none⟩ = some (.int .i64 (id : Int)) := by go_simp
  have i2 : (w3.alloc (.cells #[.int .i64 op, .int .i64 (id : Int), .int .i64 (ia : Int), .int .i64 (ib : Int), .int .i64 imm] 51)).cell? ⟨w3.heap.size, 2, none⟩ = some (.int .i64 (ia : Int)) := by go_simp
  have i3 : (w3.alloc (.cells #[.int .i64 op, .int .i64 (id : Int), .int .i64 (ia : Int), .int .i64 (ib : Int), .int .i64 imm] 51)).cell? ⟨w3.heap.size, 3, none⟩ = some (.int .i64 (ib : Int)) := by go_simp
  have i4 : (w3.alloc (.cells #[.int .i64 op, .int .i64 (id : Int), .int .i64 (ia : Int), .int .i64 (ib : Int), .int .i64 imm] 51)).cell? ⟨w3.heap.size, 4, none⟩ = some (.int .i64 imm) := by go_simp
  have hz4 : w3.heap.size < (w3.alloc (.cells #[.int .i64 op, .int .i64 (id : Int), .int .i64 (ia : Int), .int .i64 (ib : Int), .int .i64 imm] 51)).heap.size := by simp
  have k4 : Kept w2 (w3.alloc (.cells #[.int .i64 op, .int .i64 (id : Int), .int .i64 (ia : Int), .int .i64 (ib : Int), .int .i64 imm] 51)) := k3.alloc _
  clear p0 p1 p2 z0 z21 y0 y1 y2 y3 y4
  generalize (w3.alloc (.cells #[.int .i64 op, .int .i64 (id : Int), .int .i64 (ia : Int), .int .i64 (ib : Int), .int .i64 imm] 51)) = w4 at *
  have I0h := Lib.hid i0
  have I1h := Lib.hid i1
  have I2h := Lib.hid i2
  have I3h := Lib.hid i3
  have I4h := Lib.hid i4
  clear i0 i1 i2 i3 i4
  refine (refValue_any r.regs ia w4 h16 ba).mono ?_; rintro e w5 ⟨rfl, hb5⟩
  rw [← HVA.out]
  have l5 : Kept w4 w5 := hb5
  have k5 := k4.to hb5
  clear hb5
  have j0 := Kept.cell l5 hz4 I0h.out
  have j1 := Kept.cell l5 hz4 I1h.out
  have j2 := Kept.cell l5 hz4 I2h.out
  have j3 := Kept.cell l5 hz4 I3h.out
  have j4 := Kept.cell l5 hz4 I4h.out
  go_wp2_with (refine wpList_load_box rfl 29 (.tmp 62) rfl (w.heap.size + 1) 5 rfl (resL r (.slice M2 r.mem.length m2) (.slice U2 r.ws.length n2)) (r.regs.map (Value.int .u32)) (B2.out.below k5 hz2') (resL_regs h16) _ Try.underlying29 rfl 16 info_rregs (by simp [h16]) ?_)
  refine (refValue_any r.regs ib w5 h16 bb).mono ?_; rintro e w6 ⟨rfl, hb6⟩
  rw [← HVB.out]
  have l6 := l5.to hb6
  have k6 := k5.to hb6
  clear hb6 j0 j1 j2 j3 j4
  have j0 := Kept.cell l6 hz4 I0h.out
  have j1 := Kept.cell l6 hz4 I1h.out
  have j2 := Kept.cell l6 hz4 I2h.out
  have j3 := Kept.cell l6 hz4 I3h.out
  have j4 := Kept.cell l6 hz4 I4h.out
  go_wp2_with fail
  refine (refForm_any _ _).mono ?_; rintro e w7 ⟨rfl, rfl⟩
  rw [HFO.out]
  have z4 := (B2.out.below k6 hz2').cell resL_4
  have z0 := (B2.out.below k6 hz2').cell resL_0
  have f4 := (B2.out.below k6 hz2').frozen 4
  go_wp2_with fail
  refine (refTaken_any op va vb _ (by omega) (by omega)).mono ?_; rintro e w7 ⟨rfl, rfl⟩
  rw [show takenB op va vb = false by rw [HVA.out, HVB.out]; exact HTK.out]
  have N16 := Lib.hid (show (bumpZ r).regs.length = 16 from h16)
  go_wp2_with (first
    | (refine wpList_load_box rfl 32 (.tmp 4) rfl (w.heap.size + 1) 0 rfl (resL (bumpZ r) (.slice M2 r.mem.length m2) (.slice U2 r.ws.length n2)) (resL (bumpZ r) (.slice M2 r.mem.length m2) (.slice U2 r.ws.length n2)) (resL_set4 (r := r) (wrap64 (r.st + 1)) ▸ (B2.out.below k6 hz2').setCell 4 (.int .i64 (wrap64 (r.st + 1)))) (fun j v hv => by rw [Nat.zero_add]; exact hv) _ Try.underlying32 rfl 23 info_res (resL_len N16.out) ?_)
    | (refine wpList_store_box rfl 32 (.tmp 6) (.tmp 186) rfl (w.heap.size + 2) 0 (resL (bumpZ r) (.slice M2 r.mem.length m2) (.slice U2 r.ws.length n2)) rfl rfl (resL noRes (.slice none 0 0) (.slice none 0 0)) ((Q2.out.below k6 hz2'').setCell_other (Nat.ne_of_gt (Nat.lt_succ_self _)) 4 (.int .i64 (wrap64 (r.st + 1)))) (by rw [resL_len N16.out, resL_len rfl]; exact Nat.le_refl _) 23 info_res (resL_len N16.out) (resL_one rfl rfl) ?_; intro w9 B9 hg9; rw [splice_whole _ _ (by rw [resL_len N16.out, resL_len rfl])] at B9))
  refine bodyPost_ret (v := .tuple #[.agg (resL (bumpZ r) (.slice M2 r.mem.length m2) (.slice U2 r.ws.length n2)).toArray, .int .i64 ((k : Int) + 1)]) ?_ rfl ⟨_, _, rfl, ?_, ?_⟩
  · exact results_cell_tmp' Try.results15 _ _ _ ⟨w.heap.size + 2, 0, none⟩ _ _ rfl (load_res B9 N16.out) rfl
  · have o9 := ((show ResOwn w6 (w.heap.size + 3) _ _ r from ⟨own_below O2.out.mem k6, own_below O2.out.ws k6, h16⟩).setCell (b := w.heap.size + 1) (by omega) 4 (.int .i64 (wrap64 (r.st + 1)))).grown hg9 (by omega)
    exact (show ResOwn w9 (w.heap.size + 3) _ _ (bumpZ r) from ⟨o9.mem, o9.ws, o9.regs⟩).base (by omega)
  · exact Below.grown (Below.setCell (b2'.out.trans (k6.mono (Nat.le_of_lt hz2))) (Nat.le_succ _) _) hg9 (Below.setCell (b2'.out.trans (k6.mono (Nat.le_of_lt hz2))) (Nat.le_succ _) _).size (fun k hk => grown_ge hk (by omega))

set_option maxRecDepth 100000 in
set_option maxHeartbeats 1000000 in
theorem refStep_halt (cb co c d : Nat) (D : Option Addr) (p : Prog) (M U : Option Addr) (m u : Nat) (r : Res) (w : World) (k : Nat) (op imm : Int) (id ia ib : Nat) (hp : ProgV w w.heap.size (.slice (some ⟨cb, co, none⟩) p.code.length c) (.slice D p.data.length d) p) (hr : ResV w w.heap.size (.slice M r.mem.length m) (.slice U r.ws.length u) r) (hm : r.mem.length ≤ 140737488355328) (hw : r.ws.length ≤ 1000000000000) (fr : r.Fits) (h0 : r.e = 0) (h1 : p.right = true) (h2 : (r.mem.length : Int) = p.size) (hi : p.code[k]? = some ⟨op, (id : Int), (ia : Int), (ib : Int), imm⟩) (hri : rightB ⟨op, (id : Int), (ia : Int), (ib : Int), imm⟩ = true) (bd : id ≤ 15) (ba : ia ≤ 15) (bb : ib ≤ 15) (bi : -8192 ≤ imm ∧ imm ≤ 8191) (hform : formZ op = 8) :
    Calls Try.prog 15 #[.agg #[.slice (some ⟨cb, co, none⟩) p.code.length c, .int .i64 p.size, .slice D p.data.length d], .agg (resL r (.slice M r.mem.length m) (.slice U r.ws.length u)).toArray, .int .i64 (k : Int)] w fun e w' => ∃ vm' vw', e = .returned (.tuple #[.agg (resL ((bumpZ { r with e := 1 }, (k : Int))).1 vm' vw').toArray, .int .i64 ((bumpZ { r with e := 1 }, (k : Int))).2]) ∧ ResOwn w' w.heap.size vm' vw' ((bumpZ { r with e := 1 }, (k : Int))).1 ∧ Below w.heap.size w w' := by
  have q0 : (r.e != 0) = false := by simp; exact h0
  have q2 : ((r.mem.length : Int) != p.size) = false := by simp; exact h2
  have HRT : Hid (p.right = true) := h1
  have hc2 : p.code.length ≤ 2000 := by have h1' := h1; unfold Prog.right at h1'; simp only [Bool.and_eq_true, decide_eq_true_eq] at h1'; omega
  have hkl : k < p.code.length := (List.getElem?_eq_some_iff.1 hi).1
  have hk0 : (0 : Int) ≤ k := by omega
  have hk1 : (k : Int) < p.code.length := by omega
  have HI := Lib.hid (fun (x : World) (h : Below w.heap.size w x) => (hp.code.below h).ins hi)
  have HFO : Hid (formZ op = 8) := hform
  have FR := Lib.hid fr
  have va0 := valZ_range fr.2.2.2.2.2.1 ia
  have vb0 := valZ_range fr.2.2.2.2.2.1 ib
  obtain ⟨va, hva⟩ : ∃ v, v = valZ r.regs ia := ⟨_, rfl⟩
  obtain ⟨vb, hvb⟩ : ∃ v, v = valZ r.regs ib := ⟨_, rfl⟩
  rw [← hva] at va0
  rw [← hvb] at vb0
  obtain ⟨adr, hadr⟩ : ∃ a, a = (va + imm) % 4294967296 := ⟨_, rfl⟩
  have had : (va + imm % 4294967296) % 4294967296 = adr := by rw [hadr]; omega
  have ad0 : 0 ≤ adr ∧ adr ≤ 4294967295 := by omega
  have HVA := Lib.hid hva
  have HVB := Lib.hid hvb
  have HAD := Lib.hid hadr
  obtain ⟨bi0, bi1⟩ := bi
  clear h0 h1 h2 fr hva hvb hadr hform hi
  obtain ⟨u1, u2⟩ := hp.code.cap
  obtain ⟨u3, u4⟩ := hp.data.cap
  have h16 := hr.regs
  have hs : (((w.alloc (.cells #[.slice (some ⟨cb, co, none⟩) p.code.length c, .int .i64 p.size, .slice D p.data.length d] 25)).alloc (.cells (resL r (.slice M r.mem.length m) (.slice U r.ws.length u)).toArray 32)).alloc (.cells #[.int .i64 0, .int .i64 0, .int .i64 0, .int .i64 0, .int .i64 0, .int .u32 0, .int .u32 0, .int .u32 0, .int .u32 0, .int .u32 0, .int .u32 0, .int .u32 0, .int .u32 0, .int .u32 0, .int .u32 0, .int .u32 0, .int .u32 0, .int .u32 0, .int .u32 0, .int .u32 0, .int .u32 0, .slice none 0 0, .slice none 0 0] 32)).heap.size = w.heap.size + 3 := by simp
  have HB := Lib.hid ((((Below.refl w.heap.size w).alloc (Nat.le_refl _) (.cells #[.slice (some ⟨cb, co, none⟩) p.code.length c, .int .i64 p.size, .slice D p.data.length d] 25)).alloc (by simp) (.cells (resL r (.slice M r.mem.length m) (.slice U r.ws.length u)).toArray 32)).alloc (by simp; omega) (.cells #[.int .i64 0, .int .i64 0, .int .i64 0, .int .i64 0, .int .i64 0, .int .u32 0, .int .u32 0, .int .u32 0, .int .u32 0, .int .u32 0, .int .u32 0, .int .u32 0, .int .u32 0, .int .u32 0, .int .u32 0, .int .u32 0, .int .u32 0, .int .u32 0, .int .u32 0, .int .u32 0, .int .u32 0, .slice none 0 0, .slice none 0 0] 32))
  have HV := Lib.hid (((hr.below HB.out).more (show w.heap.size ≤ (((w.alloc (.cells #[.slice (some ⟨cb, co, none⟩) p.code.length c, .int .i64 p.size, .slice D p.data.length d] 25)).alloc (.cells (resL r (.slice M r.mem.length m) (.slice U r.ws.length u)).toArray 32)).alloc (.cells #[.int .i64 0, .int .i64 0, .int .i64 0, .int .i64 0, .int .i64 0, .int .u32 0, .int .u32 0, .int .u32 0, .int .u32 0, .int .u32 0, .int .u32 0, .int .u32 0, .int .u32 0, .int .u32 0, .int .u32 0, .int .u32 0, .int .u32 0, .int .u32 0, .int .u32 0, .int .u32 0, .int .u32 0, .slice none 0 0, .slice none 0 0] 32)).heap.size by rw [hs]; omega)))
  have HP0 := Lib.hid (fun (x : World) (h : Below w.heap.size w x) => hp.below h)
  have e0 : Hid ((((w.alloc (.cells #[.slice (some ⟨cb, co, none⟩) p.code.length c, .int .i64 p.size, .slice D p.data.length d] 25)).alloc (.cells (resL r (.slice M r.mem.length m) (.slice U r.ws.length u)).toArray 32)).alloc (.cells #[.int .i64 0, .int .i64 0, .int .i64 0, .int .i64 0, .int .i64 0, .int .u32 0, .int .u32 0, .int .u32 0, .int .u32 0, .int .u32 0, .int .u32 0, .int .u32 0, .int .u32 0, .int .u32 0, .int .u32 0, .int .u32 0, .int .u32 0, .int .u32 0, .int .u32 0, .int .u32 0, .int .u32 0, .slice none 0 0, .slice none 0 0] 32)).cell? ⟨w.heap.size, 0, none⟩ = some (.slice (some ⟨cb, co, none⟩) p.code.length c)) := by show _ = _; go_simp
  have e1 : Hid ((((w.alloc (.cells #[.slice (some ⟨cb, co, none⟩) p.code.length c, .int .i64 p.size, .slice D p.data.length d] 25)).alloc (.cells (resL r (.slice M r.mem.length m) (.slice U r.ws.length u)).toArray 32)).alloc (.cells #[.int .i64 0, .int .i64 0, .int .i64 0, .int .i64 0, .int .i64 0, .int .u32 0, .int .u32 0, .int .u32 0, .int .u32 0, .int .u32 0, .int .u32 0, .int .u32 0, .int .u32 0, .int .u32 0, .int .u32 0, .int .u32 0, .int .u32 0, .int .u32 0, .int .u32 0, .int .u32 0, .int .u32 0, .slice none 0 0, .slice none 0 0] 32)).cell? ⟨w.heap.size, 1, none⟩ = some (.int .i64 p.size)) := by show _ = _; go_simp
  have e2 : Hid ((((w.alloc (.cells #[.slice (some ⟨cb, co, none⟩) p.code.length c, .int .i64 p.size, .slice D p.data.length d] 25)).alloc (.cells (resL r (.slice M r.mem.length m) (.slice U r.ws.length u)).toArray 32)).alloc (.cells #[.int .i64 0, .int .i64 0, .int .i64 0, .int .i64 0, .int .i64 0, .int .u32 0, .int .u32 0, .int .u32 0, .int .u32 0, .int .u32 0, .int .u32 0, .int .u32 0, .int .u32 0, .int .u32 0, .int .u32 0, .int .u32 0, .int .u32 0, .int .u32 0, .int .u32 0, .int .u32 0, .int .u32 0, .slice none 0 0, .slice none 0 0] 32)).cell? ⟨w.heap.size, 2, none⟩ = some (.slice D p.data.length d)) := by show _ = _; go_simp
  have B0 : Hid (Box (((w.alloc (.cells #[.slice (some ⟨cb, co, none⟩) p.code.length c, .int .i64 p.size, .slice D p.data.length d] 25)).alloc (.cells (resL r (.slice M r.mem.length m) (.slice U r.ws.length u)).toArray 32)).alloc (.cells #[.int .i64 0, .int .i64 0, .int .i64 0, .int .i64 0, .int .i64 0, .int .u32 0, .int .u32 0, .int .u32 0, .int .u32 0, .int .u32 0, .int .u32 0, .int .u32 0, .int .u32 0, .int .u32 0, .int .u32 0, .int .u32 0, .int .u32 0, .int .u32 0, .int .u32 0, .int .u32 0, .int .u32 0, .slice none 0 0, .slice none 0 0] 32)) (w.heap.size + 1) (resL r (.slice M r.mem.length m) (.slice U r.ws.length u))) := by
    have := ((Box.new (w.alloc (.cells #[.slice (some ⟨cb, co, none⟩) p.code.length c, .int .i64 p.size, .slice D p.data.length d] 25)) (resL r (.slice M r.mem.length m) (.slice U r.ws.length u)) 32).alloc (.cells #[.int .i64 0, .int .i64 0, .int .i64 0, .int .i64 0, .int .i64 0, .int .u32 0, .int .u32 0, .int .u32 0, .int .u32 0, .int .u32 0, .int .u32 0, .int .u32 0, .int .u32 0, .int .u32 0, .int .u32 0, .int .u32 0, .int .u32 0, .int .u32 0, .int .u32 0, .int .u32 0, .int .u32 0, .slice none 0 0, .slice none 0 0] 32))
    have e : (w.alloc (.cells #[.slice (some ⟨cb, co, none⟩) p.code.length c, .int .i64 p.size, .slice D p.data.length d] 25)).heap.size = w.heap.size + 1 := by simp
    rw [e] at this
    exact this
  have Q0 : Hid (Box (((w.alloc (.cells #[.slice (some ⟨cb, co, none⟩) p.code.length c, .int .i64 p.size, .slice D p.data.length d] 25)).alloc (.cells (resL r (.slice M r.mem.length m) (.slice U r.ws.length u)).toArray 32)).alloc (.cells #[.int .i64 0, .int .i64 0, .int .i64 0, .int .i64 0, .int .i64 0, .int .u32 0, .int .u32 0, .int .u32 0, .int .u32 0, .int .u32 0, .int .u32 0, .int .u32 0, .int .u32 0, .int .u32 0, .int .u32 0, .int .u32 0, .int .u32 0, .int .u32 0, .int .u32 0, .int .u32 0, .int .u32 0, .slice none 0 0, .slice none 0 0] 32)) (w.heap.size + 2) (resL noRes (.slice none 0 0) (.slice none 0 0))) := by
    have := Box.new ((w.alloc (.cells #[.slice (some ⟨cb, co, none⟩) p.code.length c, .int .i64 p.size, .slice D p.data.length d] 25)).alloc (.cells (resL r (.slice M r.mem.length m) (.slice U r.ws.length u)).toArray 32)) (resL noRes (.slice none 0 0) (.slice none 0 0)) 32
    have e : ((w.alloc (.cells #[.slice (some ⟨cb, co, none⟩) p.code.length c, .int .i64 p.size, .slice D p.data.length d] 25)).alloc (.cells (resL r (.slice M r.mem.length m) (.slice U r.ws.length u)).toArray 32)).heap.size = w.heap.size + 2 := by simp
    rw [e] at this
    exact this
  clear hp hr
  go_enter Try.func15, Try.ntmps15
  go_wp2_with (refine wpList_load_box rfl 32 (.tmp 4) rfl (w.heap.size + 1) 0 rfl (resL r (.slice M r.mem.length m) (.slice U r.ws.length u)) (resL r (.slice M r.mem.length m) (.slice U r.ws.length u)) B0.out (fun j v hv => by rw [Nat.zero_add]; exact hv) _ Try.underlying32 rfl 23 info_res (resL_len h16) ?_)
  generalize (((w.alloc (.cells #[.slice (some ⟨cb, co, none⟩) p.code.length c, .int .i64 p.size, .slice D p.data.length d] 25)).alloc (.cells (resL r (.slice M r.mem.length m) (.slice U r.ws.length u)).toArray 32)).alloc (.cells #[.int .i64 0, .int .i64 0, .int .i64 0, .int .i64 0, .int .i64 0, .int .u32 0, .int .u32 0, .int .u32 0, .int .u32 0, .int .u32 0, .int .u32 0, .int .u32 0, .int .u32 0, .int .u32 0, .int .u32 0, .int .u32 0, .int .u32 0, .int .u32 0, .int .u32 0, .int .u32 0, .int .u32 0, .slice none 0 0, .slice none 0 0] 32)) = W0 at *
  refine (refCopy_any r _ _ W0 HV.out hm hw).mono ?_; rintro e w1 ⟨vm1, vw1, rfl, hO1, hb1⟩
  obtain ⟨M2, m2, rfl⟩ := (Row.of_own hO1.mem).form
  obtain ⟨U2, n2, rfl⟩ := (Row.of_own hO1.ws).form
  rw [hs] at hO1 hb1
  have B1 := Lib.hid (B0.out.below hb1 (by omega))
  have Q1 := Lib.hid (Q0.out.below hb1 (by omega))
  have O1 := Lib.hid hO1
  have b1 := Lib.hid (HB.out.trans (hb1.mono (show w.heap.size ≤ w.heap.size + 3 by omega)))
  clear hO1
  go_wp2_with (refine wpList_store_box rfl 32 (.tmp 4) (.tmp 19) rfl (w.heap.size + 1) 0 (resL r (.slice M2 r.mem.length m2) (.slice U2 r.ws.length n2)) rfl rfl (resL r (.slice M r.mem.length m) (.slice U r.ws.length u)) B1.out (by rw [resL_len h16, resL_len h16]; exact Nat.le_refl _) 23 info_res (resL_len h16) (resL_one rfl rfl) ?_; intro w2 B2' hg2; rw [splice_whole _ _ (by rw [resL_len h16, resL_len h16])] at B2'; have hz1 : w.heap.size + 3 ≤ w1.heap.size := (by have := hb1.size; omega); have b2' := Lib.hid (show Below w.heap.size w w2 from Below.grown b1.out hg2 (Nat.le_trans (Nat.le_add_right _ 3) hz1) (fun k hk => grown_ge hk (Nat.le_succ _))); have B2 := Lib.hid B2'; have Q2 := Lib.hid (Q1.out.grown hg2 (fun h => by injection h with h; omega)); have O2 := Lib.hid (O1.out.grown hg2 (by omega)); have p0 := cell_over hb1 hg2 (show w.heap.size < w.heap.size + 3 by omega) hz1 (show w.heap.size ≠ w.heap.size + 1 by omega) e0.out; have p1 := cell_over hb1 hg2 (show w.heap.size < w.heap.size + 3 by omega) hz1 (show w.heap.size ≠ w.heap.size + 1 by omega) e1.out; have p2 := cell_over hb1 hg2 (show w.heap.size < w.heap.size + 3 by omega) hz1 (show w.heap.size ≠ w.heap.size + 1 by omega) e2.out; have P0h := Lib.hid p0; have P1h := Lib.hid p1; have P2h := Lib.hid p2; have z0 := B2'.cell resL_0; have z21 := B2'.cell (resL_21 h16); have g2' := Lib.hid hg2)
  have hz2 : w.heap.size < w2.heap.size := by have := Q2.out.lt; omega
  have hz2' : w.heap.size + 1 < w2.heap.size := by have := Q2.out.lt; omega
  have hz2'' : w.heap.size + 2 < w2.heap.size := Q2.out.lt
  clear p0 p1 p2 z0 z21 hg2
  refine (refRight_any (some ⟨cb, co, none⟩) c p.size D p.data.length d p.code _ (((HP0.out _ b2'.out).code).more (Nat.le_of_lt hz2)) u3 u4).mono ?_; rintro e w3 ⟨rfl, hb3⟩
  rw [show rightZ p.code p.size p.data.length = true from HRT.out]
  have k3 : Kept w2 w3 := hb3
  clear hb3
  have p0 := Kept.cell k3 hz2 P0h.out
  have p1 := Kept.cell k3 hz2 P1h.out
  have p2 := Kept.cell k3 hz2 P2h.out
  have z0 := ((B2.out).below k3 hz2').cell resL_0
  have z21 := ((B2.out).below k3 hz2').cell (resL_21 h16)
  obtain ⟨y0, y1, y2, y3, y4⟩ := HI.out _ (b2'.out.trans (k3.mono (Nat.le_of_lt hz2)))
  go_wp2_with (refine wpList_load_box rfl 29 (.tmp 57) rfl (w.heap.size + 1) 5 rfl (resL r (.slice M2 r.mem.length m2) (.slice U2 r.ws.length n2)) (r.regs.map (Value.int .u32)) ((B2.out.below k3 hz2').alloc (.cells #[.int .i64 op, .int .i64 (id : Int), .int .i64 (ia : Int), .int .i64 (ib : Int), .int .i64 imm] 51)) (resL_regs h16) _ Try.underlying29 rfl 16 info_rregs (by simp [h16]) ?_)
  have i0 : (w3.alloc (.cells #[.int .i64 op, .int .i64 (id : Int), .int .i64 (ia : Int), .int .i64 (ib : Int), .int .i64 imm] 51)).cell? ⟨w3.heap.size, 0, none⟩ = some (.int .i64 op) := by go_simp
  have i1 : (w3.alloc (.cells #[.int .i64 op, .int .i64 (id : Int), .int .i64 (ia : Int), .int .i64 (ib : Int), .int .i64 imm] 51)).cell? ⟨w3.heap.size, 1, none⟩ = some (.int .i64 (id : Int)) := by go_simp
  have i2 : (w3.alloc (.cells #[.int .i64 op, .int .i64 (id : Int), .int .i64 (ia : Int), .int .i64 (ib : Int), .int .i64 imm] 51)).cell? ⟨w3.heap.size, 2, none⟩ = some (.int .i64 (ia : Int)) := by go_simp
  have i3 : (w3.alloc (.cells #[.int .i64 op, .int .i64 (id : Int), .int .i64 (ia : Int), .int .i64 (ib : Int), .int .i64 imm] 51)).cell? ⟨w3.heap.size, 3, none⟩ = some (.int .i64 (ib : Int)) := by go_simp
  have i4 : (w3.alloc (.cells #[.int .i64 op, .int .i64 (id : Int), .int .i64 (ia : Int), .int .i64 (ib : Int), .int .i64 imm] 51)).cell? ⟨w3.heap.size, 4, none⟩ = some (.int .i64 imm) := by go_simp
  have hz4 : w3.heap.size < (w3.alloc (.cells #[.int .i64 op, .int .i64 (id : Int), .int .i64 (ia : Int), .int .i64 (ib : Int), .int .i64 imm] 51)).heap.size := by simp
  have k4 : Kept w2 (w3.alloc (.cells #[.int .i64 op, .int .i64 (id : Int), .int .i64 (ia : Int), .int .i64 (ib : Int), .int .i64 imm] 51)) := k3.alloc _
  clear p0 p1 p2 z0 z21 y0 y1 y2 y3 y4
  generalize (w3.alloc (.cells #[.int .i64 op, .int .i64 (id : Int), .int .i64 (ia : Int), .int .i64 (ib : Int), .int .i64 imm] 51)) = w4 at *
  have I0h := Lib.hid i0
  have I1h := Lib.hid i1
  have I2h := Lib.hid i2
  have I3h := Lib.hid i3
  have I4h := Lib.hid i4
  clear i0 i1 i2 i3 i4
  refine (refValue_any r.regs ia w4 h16 ba).mono ?_; rintro e w5 ⟨rfl, hb5⟩
  rw [← HVA.out]
  have l5 : Kept w4 w5 := hb5
  have k5 := k4.to hb5
  clear hb5
  have j0 := Kept.cell l5 hz4 I0h.out
  have j1 := Kept.cell l5 hz4 I1h.out
  have j2 := Kept.cell l5 hz4 I2h.out
  have j3 := Kept.cell l5 hz4 I3h.out
  have j4 := Kept.cell l5 hz4 I4h.out
  go_wp2_with (refine wpList_load_box rfl 29 (.tmp 62) rfl (w.heap.size + 1) 5 rfl (resL r (.slice M2 r.mem.length m2) (.slice U2 r.ws.length n2)) (r.regs.map (Value.int .u32)) (B2.out.below k5 hz2') (resL_regs h16) _ Try.underlying29 rfl 16 info_rregs (by simp [h16]) ?_)
  refine (refValue_any r.regs ib w5 h16 bb).mono ?_; rintro e w6 ⟨rfl, hb6⟩
  rw [← HVB.out]
  have l6 := l5.to hb6
  have k6 := k5.to hb6
  clear hb6 j0 j1 j2 j3 j4
  have j0 := Kept.cell l6 hz4 I0h.out
  have j1 := Kept.cell l6 hz4 I1h.out
  have j2 := Kept.cell l6 hz4 I2h.out
  have j3 := Kept.cell l6 hz4 I3h.out
  have j4 := Kept.cell l6 hz4 I4h.out
  go_wp2_with fail
  refine (refForm_any _ _).mono ?_; rintro e w7 ⟨rfl, rfl⟩
  rw [HFO.out]
  have z4 := (B2.out.below k6 hz2').cell resL_4
  have z0 := (B2.out.below k6 hz2').cell resL_0
  have f4 := (B2.out.below k6 hz2').frozen 4
  have f0 := (B2.out.below k6 hz2').frozen 0
  have E0 := Lib.hid (resL_set0 (r := r) (vm := .slice M2 r.mem.length m2) (vw := .slice U2 r.ws.length n2) 1)
  have BX0 : Hid (Box (w6.setCell ⟨w.heap.size + 1, 0, none⟩ (.int .i64 1)) (w.heap.size + 1) (resL { r with e := 1 } (.slice M2 r.mem.length m2) (.slice U2 r.ws.length n2))) := by
    have := (B2.out.below k6 hz2').setCell 0 (.int .i64 1)
    rw [E0.out] at this
    exact this
  have BX4 : Hid (Box ((w6.setCell ⟨w.heap.size + 1, 0, none⟩ (.int .i64 1)).setCell ⟨w.heap.size + 1, 4, none⟩ (.int .i64 (wrap64 (r.st + 1)))) (w.heap.size + 1) (resL (bumpZ { r with e := 1 }) (.slice M2 r.mem.length m2) (.slice U2 r.ws.length n2))) := by
    have := BX0.out.setCell 4 (.int .i64 (wrap64 (r.st + 1)))
    rw [resL_set4] at this
    exact this
  have QX4 := Lib.hid (((Q2.out.below k6 hz2'').setCell_other (Nat.ne_of_gt (Nat.lt_succ_self _)) 0 (.int .i64 1)).setCell_other (Nat.ne_of_gt (Nat.lt_succ_self _)) 4 (.int .i64 (wrap64 (r.st + 1))))
  have N16 := Lib.hid (show (bumpZ { r with e := 1 }).regs.length = 16 from h16)
  go_wp2_with (first
    | (refine wpList_load_box rfl 32 (.tmp 4) rfl (w.heap.size + 1) 0 rfl (resL (bumpZ { r with e := 1 }) (.slice M2 r.mem.length m2) (.slice U2 r.ws.length n2)) (resL (bumpZ { r with e := 1 }) (.slice M2 r.mem.length m2) (.slice U2 r.ws.length n2)) BX4.out (fun j v hv => by rw [Nat.zero_add]; exact hv) _ Try.underlying32 rfl 23 info_res (resL_len N16.out) ?_)
    | (refine wpList_store_box rfl 32 (.tmp 6) (.tmp 186) rfl (w.heap.size + 2) 0 (resL (bumpZ { r with e := 1 }) (.slice M2 r.mem.length m2) (.slice U2 r.ws.length n2)) rfl rfl (resL noRes (.slice none 0 0) (.slice none 0 0)) QX4.out (by rw [resL_len N16.out, resL_len rfl]; exact Nat.le_refl _) 23 info_res (resL_len N16.out) (resL_one rfl rfl) ?_; intro w9 B9 hg9; rw [splice_whole _ _ (by rw [resL_len N16.out, resL_len rfl])] at B9))
  refine bodyPost_ret (v := .tuple #[.agg (resL (bumpZ { r with e := 1 }) (.slice M2 r.mem.length m2) (.slice U2 r.ws.length n2)).toArray, .int .i64 (k : Int)]) ?_ rfl ⟨_, _, rfl, ?_, ?_⟩
  · exact results_cell_tmp' Try.results15 _ _ _ ⟨w.heap.size + 2, 0, none⟩ _ _ rfl (load_res B9 N16.out) rfl
  · have o9 := (((show ResOwn w6 (w.heap.size + 3) _ _ { r with e := 1 } from ⟨own_below O2.out.mem k6, own_below O2.out.ws k6, h16⟩).setCell (b := w.heap.size + 1) (by omega) 0 (.int .i64 1)).setCell (b := w.heap.size + 1) (by omega) 4 (.int .i64 (wrap64 (r.st + 1)))).grown hg9 (by omega)
    exact (show ResOwn w9 (w.heap.size + 3) _ _ (bumpZ { r with e := 1 }) from ⟨o9.mem, o9.ws, o9.regs⟩).base (by omega)
  · exact Below.grown (Below.setCell (Below.setCell (b2'.out.trans (k6.mono (Nat.le_of_lt hz2))) (Nat.le_succ _) _) (Nat.le_succ _) _) hg9 (Below.setCell (Below.setCell (b2'.out.trans (k6.mono (Nat.le_of_lt hz2))) (Nat.le_succ _) _) (Nat.le_succ _) _).size (fun k hk => grown_ge hk (by omega))

end Go.Proofs.Ytjbobihiigeapaa.Words

/- Contract of the document's own Step. -/
namespace Go.Proofs.Ytjbobihiigeapaa.Words
set_option maxRecDepth 100000
open Go.RowKit
set_option linter.unusedVariables false


set_option maxRecDepth 100000 in
set_option maxHeartbeats 1000000 in
theorem refStep_div1 (cb co c d : Nat) (D : Option Addr) (p : Prog) (M U : Option Addr) (m u : Nat) (r : Res) (w : World) (k : Nat) (op imm : Int) (id ia ib : Nat) (hp : ProgV w w.heap.size (.slice (some ⟨cb, co, none⟩) p.code.length c) (.slice D p.data.length d) p) (hr : ResV w w.heap.size (.slice M r.mem.length m) (.slice U r.ws.length u) r) (hm : r.mem.length ≤ 140737488355328) (hw : r.ws.length ≤ 1000000000000) (fr : r.Fits) (h0 : r.e = 0) (h1 : p.right = true) (h2 : (r.mem.length : Int) = p.size) (hi : p.code[k]? = some ⟨op, (id : Int), (ia : Int), (ib : Int), imm⟩) (hri : rightB ⟨op, (id : Int), (ia : Int), (ib : Int), imm⟩ = true) (bd : id ≤ 15) (ba : ia ≤ 15) (bb : ib ≤ 15) (bi : -8192 ≤ imm ∧ imm ≤ 8191) (hform : formZ op = 1) (hd : doB ⟨op, (id : Int), (ia : Int), (ib : Int), imm⟩ (valZ r.regs ib) = false) :
    Calls Try.prog 15 #[.agg #[.slice (some ⟨cb, co, none⟩) p.code.length c, .int .i64 p.size, .slice D p.data.length d], .agg (resL r (.slice M r.mem.length m) (.slice U r.ws.length u)).toArray, .int .i64 (k : Int)] w fun e w' => ∃ vm' vw', e = .returned (.tuple #[.agg (resL ((trapZ r 3 (k : Int), (k : Int))).1 vm' vw').toArray, .int .i64 ((trapZ r 3 (k : Int), (k : Int))).2]) ∧ ResOwn w' w.heap.size vm' vw' ((trapZ r 3 (k : Int), (k : Int))).1 ∧ Below w.heap.size w w' := by
  have HDB0 := Lib.hid hd
  clear hd
  have q0 : (r.e != 0) = false := by simp; exact h0
  have q2 : ((r.mem.length : Int) != p.size) = false := by simp; exact h2
  have HRT : Hid (p.right = true) := h1
  have hc2 : p.code.length ≤ 2000 := by have h1' := h1; unfold Prog.right at h1'; simp only [Bool.and_eq_true, decide_eq_true_eq] at h1'; omega
  have hkl : k < p.code.length := (List.getElem?_eq_some_iff.1 hi).1
  have hk0 : (0 : Int) ≤ k := by omega
  have hk1 : (k : Int) < p.code.length := by omega
  have HI := Lib.hid (fun (x : World) (h : Below w.heap.size w x) => (hp.code.below h).ins hi)
  have HFO : Hid (formZ op = 1) := hform
  have FR := Lib.hid fr
  have va0 := valZ_range fr.2.2.2.2.2.1 ia
  have vb0 := valZ_range fr.2.2.2.2.2.1 ib
  obtain ⟨va, hva⟩ : ∃ v, v = valZ r.regs ia := ⟨_, rfl⟩
  obtain ⟨vb, hvb⟩ : ∃ v, v = valZ r.regs ib := ⟨_, rfl⟩
  rw [← hva] at va0
  rw [← hvb] at vb0
  obtain ⟨adr, hadr⟩ : ∃ a, a = (va + imm) % 4294967296 := ⟨_, rfl⟩
  have had : (va + imm % 4294967296) % 4294967296 = adr := by rw [hadr]; omega
  have ad0 : 0 ≤ adr ∧ adr ≤ 4294967295 := by omega
  have HVA := Lib.hid hva
  have HVB := Lib.hid hvb
  have HAD := Lib.hid hadr
  obtain ⟨bi0, bi1⟩ := bi
  clear h0 h1 h2 fr hva hvb hadr hform hi
  obtain ⟨u1, u2⟩ := hp.code.cap
  obtain ⟨u3, u4⟩ := hp.data.cap
  have h16 := hr.regs
  have hs : (((w.alloc (.cells #[.slice (some ⟨cb, co, none⟩) p.code.length c, .int .i64 p.size, .slice D p.data.length d] 25)).alloc (.cells (resL r (.slice M r.mem.length m) (.slice U r.ws.length u)).toArray 32)).alloc (.cells #[.int .i64 0, .int .i64 0, .int .i64 0, .int .i64 0, .int .i64 0, .int .u32 0, .int .u32 0, .int .u32 0, .int .u32 0, .int .u32 0, .int .u32 0, .int .u32 0, .int .u32 0, .int .u32 0, .int .u32 0, .int .u32 0, .int .u32 0, .int .u32 0, .int .u32 0, .int .u32 0, .int .u32 0, .slice none 0 0, .slice none 0 0] 32)).heap.size = w.heap.size + 3 := by simp
  have HB := Lib.hid ((((Below.refl w.heap.size w).alloc (Nat.le_refl _) (.cells #[.slice (some ⟨cb, co, none⟩) p.code.length c, .int .i64 p.size, .slice D p.data.length d] 25)).alloc (by simp) (.cells (resL r (.slice M r.mem.length m) (.slice U r.ws.length u)).toArray 32)).alloc (by simp; omega) (.cells #[.int .i64 0, .int .i64 0, .int .i64 0, .int .i64 0, .int .i64 0, .int .u32 0, .int .u32 0, .int .u32 0, .int .u32 0, .int .u32 0, .int .u32 0, .int .u32 0, .int .u32 0, .int .u32 0, .int .u32 0, .int .u32 0, .int .u32 0, .int .u32 0, .int .u32 0, .int .u32 0, .int .u32 0, .slice none 0 0, .slice none 0 0] 32))
  have HV := Lib.hid (((hr.below HB.out).more (show w.heap.size ≤ (((w.alloc (.cells #[.slice (some ⟨cb, co, none⟩) p.code.length c, .int .i64 p.size, .slice D p.data.length d] 25)).alloc (.cells (resL r (.slice M r.mem.length m) (.slice U r.ws.length u)).toArray 32)).alloc (.cells #[.int .i64 0, .int .i64 0, .int .i64 0, .int .i64 0, .int .i64 0, .int .u32 0, .int .u32 0, .int .u32 0, .int .u32 0, .int .u32 0, .int .u32 0, .int .u32 0, .int .u32 0, .int .u32 0, .int .u32 0, .int .u32 0, .int .u32 0, .int .u32 0, .int .u32 0, .int .u32 0, .int .u32 0, .slice none 0 0, .slice none 0 0] 32)).heap.size by rw [hs]; omega)))
  have HP0 := Lib.hid (fun (x : World) (h : Below w.heap.size w x) => hp.below h)
  have e0 : Hid ((((w.alloc (.cells #[.slice (some ⟨cb, co, none⟩) p.code.length c, .int .i64 p.size, .slice D p.data.length d] 25)).alloc (.cells (resL r (.slice M r.mem.length m) (.slice U r.ws.length u)).toArray 32)).alloc (.cells #[.int .i64 0, .int .i64 0, .int .i64 0, .int .i64 0, .int .i64 0, .int .u32 0, .int .u32 0, .int .u32 0, .int .u32 0, .int .u32 0, .int .u32 0, .int .u32 0, .int .u32 0, .int .u32 0, .int .u32 0, .int .u32 0, .int .u32 0, .int .u32 0, .int .u32 0, .int .u32 0, .int .u32 0, .slice none 0 0, .slice none 0 0] 32)).cell? ⟨w.heap.size, 0, none⟩ = some (.slice (some ⟨cb, co, none⟩) p.code.length c)) := by show _ = _; go_simp
  have e1 : Hid ((((w.alloc (.cells #[.slice (some ⟨cb, co, none⟩) p.code.length c, .int .i64 p.size, .slice D p.data.length d] 25)).alloc (.cells (resL r (.slice M r.mem.length m) (.slice U r.ws.length u)).toArray 32)).alloc (.cells #[.int .i64 0, .int .i64 0, .int .i64 0, .int .i64 0, .int .i64 0, .int .u32 0, .int .u32 0, .int .u32 0, .int .u32 0, .int .u32 0, .int .u32 0, .int .u32 0, .int .u32 0, .int .u32 0, .int .u32 0, .int .u32 0, .int .u32 0, .int .u32 0, .int .u32 0, .int .u32 0, .int .u32 0, .slice none 0 0, .slice none 0 0] 32)).cell? ⟨w.heap.size, 1, none⟩ = some (.int .i64 p.size)) := by show _ = _; go_simp
  have e2 : Hid ((((w.alloc (.cells #[.slice (some ⟨cb, co, none⟩) p.code.length c, .int .i64 p.size, .slice D p.data.length d] 25)).alloc (.cells (resL r (.slice M r.mem.length m) (.slice U r.ws.length u)).toArray 32)).alloc (.cells #[.int .i64 0, .int .i64 0, .int .i64 0, .int .i64 0, .int .i64 0, .int .u32 0, .int .u32 0, .int .u32 0, .int .u32 0, .int .u32 0, .int .u32 0, .int .u32 0, .int .u32 0, .int .u32 0, .int .u32 0, .int .u32 0, .int .u32 0, .int .u32 0, .int .u32 0, .int .u32 0, .int .u32 0, .slice none 0 0, .slice none 0 0] 32)).cell? ⟨w.heap.size, 2, none⟩ = some (.slice D p.data.length d)) := by show _ = _; go_simp
  have B0 : Hid (Box (((w.alloc (.cells #[.slice (some ⟨cb, co, none⟩) p.code.length c, .int .i64 p.size, .slice D p.data.length d] 25)).alloc (.cells (resL r (.slice M r.mem.length m) (.slice U r.ws.length u)).toArray 32)).alloc (.cells #[.int .i64 0, .int .i64 0, .int .i64 0, .int .i64 0, .int .i64 0, .int .u32 0, .int .u32 0, .int .u32 0, .int .u32 0, .int .u32 0, .int .u32 0, .int .u32 0, .int .u32 0, .int .u32 0, .int .u32 0, .int .u32 0, .int .u32 0, .int .u32 0, .int .u32 0, .int .u32 0, .int .u32 0, .slice none 0 0, .slice none 0 0] 32)) (w.heap.size + 1) (resL r (.slice M r.mem.length m) (.slice U r.ws.length u))) := by
    have := ((Box.new (w.alloc (.cells #[.slice (some ⟨cb, co, none⟩) p.code.length c, .int .i64 p.size, .slice D p.data.length d] 25)) (resL r (.slice M r.mem.length m) (.slice U r.ws.length u)) 32).alloc (.cells #[.int .i64 0, .int .i64 0, .int .i64 0, .int .i64 0, .int .i64 0, .int .u32 0, .int .u32 0, .int .u32 0, .int .u32 0, .int .u32 0, .int .u32 0, .int .u32 0, .int .u32 0, .int .u32 0, .int .u32 0, .int .u32 0, .int .u32 0, .int .u32 0, .int .u32 0, .int .u32 0, .int .u32 0, .slice none 0 0, .slice none 0 0] 32))
    have e : (w.alloc (.cells #[.slice (some ⟨cb, co, none⟩) p.code.length c, .int .i64 p.size, .slice D p.data.length d] 25)).heap.size = w.heap.size + 1 := by simp
    rw [e] at this
    exact this
  have Q0 : Hid (Box (((w.alloc (.cells #[.slice (some ⟨cb, co, none⟩) p.code.length c, .int .i64 p.size, .slice D p.data.length d] 25)).alloc (.cells (resL r (.slice M r.mem.length m) (.slice U r.ws.length u)).toArray 32)).alloc (.cells #[.int .i64 0, .int .i64 0, .int .i64 0, .int .i64 0, .int .i64 0, .int .u32 0, .int .u32 0, .int .u32 0, .int .u32 0, .int .u32 0, .int .u32 0, .int .u32 0, .int .u32 0, .int .u32 0, .int .u32 0, .int .u32 0, .int .u32 0, .int .u32 0, .int .u32 0, .int .u32 0, .int .u32 0, .slice none 0 0, .slice none 0 0] 32)) (w.heap.size + 2) (resL noRes (.slice none 0 0) (.slice none 0 0))) := by
    have := Box.new ((w.alloc (.cells #[.slice (some ⟨cb, co, none⟩) p.code.length c, .int .i64 p.size, .slice D p.data.length d] 25)).alloc (.cells (resL r (.slice M r.mem.length m) (.slice U r.ws.length u)).toArray 32)) (resL noRes (.slice none 0 0) (.slice none 0 0)) 32
    have e : ((w.alloc (.cells #[.slice (some ⟨cb, co, none⟩) p.code.length c, .int .i64 p.size, .slice D p.data.length d] 25)).alloc (.cells (resL r (.slice M r.mem.length m) (.slice U r.ws.length u)).toArray 32)).heap.size = w.heap.size + 2 := by simp
    rw [e] at this
    exact this
  clear hp hr
  go_enter Try.func15, Try.ntmps15
  go_wp2_with (refine wpList_load_box rfl 32 (.tmp 4) rfl (w.heap.size + 1) 0 rfl (resL r (.slice M r.mem.length m) (.slice U r.ws.length u)) (resL r (.slice M r.mem.length m) (.slice U r.ws.length u)) B0.out (fun j v hv => by rw [Nat.zero_add]; exact hv) _ Try.underlying32 rfl 23 info_res (resL_len h16) ?_)
  generalize (((w.alloc (.cells #[.slice (some ⟨cb, co, none⟩) p.code.length c, .int .i64 p.size, .slice D p.data.length d] 25)).alloc (.cells (resL r (.slice M r.mem.length m) (.slice U r.ws.length u)).toArray 32)).alloc (.cells #[.int .i64 0, .int .i64 0, .int .i64 0, .int .i64 0, .int .i64 0, .int .u32 0, .int .u32 0, .int .u32 0, .int .u32 0, .int .u32 0, .int .u32 0, .int .u32 0, .int .u32 0, .int .u32 0, .int .u32 0, .int .u32 0, .int .u32 0, .int .u32 0, .int .u32 0, .int .u32 0, .int .u32 0, .slice none 0 0, .slice none 0 0] 32)) = W0 at *
  refine (refCopy_any r _ _ W0 HV.out hm hw).mono ?_; rintro e w1 ⟨vm1, vw1, rfl, hO1, hb1⟩
  obtain ⟨M2, m2, rfl⟩ := (Row.of_own hO1.mem).form
  obtain ⟨U2, n2, rfl⟩ := (Row.of_own hO1.ws).form
  rw [hs] at hO1 hb1
  have B1 := Lib.hid (B0.out.below hb1 (by omega))
  have Q1 := Lib.hid (Q0.out.below hb1 (by omega))
  have O1 := Lib.hid hO1
  have b1 := Lib.hid (HB.out.trans (hb1.mono (show w.heap.size ≤ w.heap.size + 3 by omega)))
  clear hO1
  go_wp2_with (refine wpList_store_box rfl 32 (.tmp 4) (.tmp 19) rfl (w.heap.size + 1) 0 (resL r (.slice M2 r.mem.length m2) (.slice U2 r.ws.length n2)) rfl rfl (resL r (.slice M r.mem.length m) (.slice U r.ws.length u)) B1.out (by rw [resL_len h16, resL_len h16]; exact Nat.le_refl _) 23 info_res (resL_len h16) (resL_one rfl rfl) ?_; intro w2 B2' hg2; rw [splice_whole _ _ (by rw [resL_len h16, resL_len h16])] at B2'; have hz1 : w.heap.size + 3 ≤ w1.heap.size := (by have := hb1.size; omega); have b2' := Lib.hid (show Below w.heap.size w w2 from Below.grown b1.out hg2 (Nat.le_trans (Nat.le_add_right _ 3) hz1) (fun k hk => grown_ge hk (Nat.le_succ _))); have B2 := Lib.hid B2'; have Q2 := Lib.hid (Q1.out.grown hg2 (fun h => by injection h with h; omega)); have O2 := Lib.hid (O1.out.grown hg2 (by omega)); have p0 := cell_over hb1 hg2 (show w.heap.size < w.heap.size + 3 by omega) hz1 (show w.heap.size ≠ w.heap.size + 1 by omega) e0.out; have p1 := cell_over hb1 hg2 (show w.heap.size < w.heap.size + 3 by omega) hz1 (show w.heap.size ≠ w.heap.size + 1 by omega) e1.out; have p2 := cell_over hb1 hg2 (show w.heap.size < w.heap.size + 3 by omega) hz1 (show w.heap.size ≠ w.heap.size + 1 by omega) e2.out; have P0h := Lib.hid p0; have P1h := Lib.hid p1; have P2h := Lib.hid p2; have z0 := B2'.cell resL_0; have z21 := B2'.cell (resL_21 h16); have g2' := Lib.hid hg2)
  have hz2 : w.heap.size < w2.heap.size := by have := Q2.out.lt; omega
  have hz2' : w.heap.size + 1 < w2.heap.size := by have := Q2.out.lt; omega
  have hz2'' : w.heap.size + 2 < w2.heap.size := Q2.out.lt
  clear p0 p1 p2 z0 z21 hg2
  refine (refRight_any (some ⟨cb, co, none⟩) c p.size D p.data.length d p.code _ (((HP0.out _ b2'.out).code).more (Nat.le_of_lt hz2)) u3 u4).mono ?_; rintro e w3 ⟨rfl, hb3⟩
  rw [show rightZ p.code p.size p.data.length = true from HRT.out]
  have k3 : Kept w2 w3 := hb3
  clear hb3
  have p0 := Kept.cell k3 hz2 P0h.out
  have p1 := Kept.cell k3 hz2 P1h.out
  have p2 := Kept.cell k3 hz2 P2h.out
  have z0 := ((B2.out).below k3 hz2').cell resL_0
  have z21 := ((B2.out).below k3 hz2').cell (resL_21 h16)
  obtain ⟨y0, y1, y2, y3, y4⟩ := HI.out _ (b2'.out.trans (k3.mono (Nat.le_of_lt hz2)))
  go_wp2_with (refine wpList_load_box rfl 29 (.tmp 57) rfl (w.heap.size + 1) 5 rfl (resL r (.slice M2 r.mem.length m2) (.slice U2 r.ws.length n2)) (r.regs.map (Value.int .u32)) ((B2.out.below k3 hz2').alloc (.cells #[.int .i64 op, .int .i64 (id : Int), .int .i64 (ia : Int), .int .i64 (ib : Int), .int .i64 imm] 51)) (resL_regs h16) _ Try.underlying29 rfl 16 info_rregs (by simp [h16]) ?_)
  have i0 : (w3.alloc (.cells #[.int .i64 op, .int .i64 (id : Int), .int .i64 (ia : Int), .int .i64 (ib : Int), .int .i64 imm] 51)).cell? ⟨w3.heap.size, 0, none⟩ = some (.int .i64 op) := by go_simp
  have i1 : (w3.alloc (.cells #[.int .i64 op, .int .i64 (id : Int), .int .i64 (ia : Int), .int .i64 (ib : Int), .int .i64 imm] 51)).cell? ⟨w3.heap.size, 1, none⟩ = some (.int .i64 (id : Int)) := by go_simp
  have i2 : (w3.alloc (.cells #[.int .i64 op, .int .i64 (id : Int), .int .i64 (ia : Int), .int .i64 (ib : Int), .int .i64 imm] 51)).cell? ⟨w3.heap.size, 2, none⟩ = some (.int .i64 (ia : Int)) := by go_simp
  have i3 : (w3.alloc (.cells #[.int .i64 op, .int .i64 (id : Int), .int .i64 (ia : Int), .int .i64 (ib : Int), .int .i64 imm] 51)).cell? ⟨w3.heap.size, 3, none⟩ = some (.int .i64 (ib : Int)) := by go_simp
  have i4 : (w3.alloc (.cells #[.int .i64 op, .int .i64 (id : Int), .int .i64 (ia : Int), .int .i64 (ib : Int), .int .i64 imm] 51)).cell? ⟨w3.heap.size, 4, none⟩ = some (.int .i64 imm) := by go_simp
  have hz4 : w3.heap.size < (w3.alloc (.cells #[.int .i64 op, .int .i64 (id : Int), .int .i64 (ia : Int), .int .i64 (ib : Int), .int .i64 imm] 51)).heap.size := by simp
  have k4 : Kept w2 (w3.alloc (.cells #[.int .i64 op, .int .i64 (id : Int), .int .i64 (ia : Int), .int .i64 (ib : Int), .int .i64 imm] 51)) := k3.alloc _
  clear p0 p1 p2 z0 z21 y0 y1 y2 y3 y4
  generalize (w3.alloc (.cells #[.int .i64 op, .int .i64 (id : Int), .int .i64 (ia : Int), .int .i64 (ib : Int), .int .i64 imm] 51)) = w4 at *
  have I0h := Lib.hid i0
  have I1h := Lib.hid i1
  have I2h := Lib.hid i2
  have I3h := Lib.hid i3
  have I4h := Lib.hid i4
  clear i0 i1 i2 i3 i4
  refine (refValue_any r.regs ia w4 h16 ba).mono ?_; rintro e w5 ⟨rfl, hb5⟩
  rw [← HVA.out]
  have l5 : Kept w4 w5 := hb5
  have k5 := k4.to hb5
  clear hb5
  have j0 := Kept.cell l5 hz4 I0h.out
  have j1 := Kept.cell l5 hz4 I1h.out
  have j2 := Kept.cell l5 hz4 I2h.out
  have j3 := Kept.cell l5 hz4 I3h.out
  have j4 := Kept.cell l5 hz4 I4h.out
  go_wp2_with (refine wpList_load_box rfl 29 (.tmp 62) rfl (w.heap.size + 1) 5 rfl (resL r (.slice M2 r.mem.length m2) (.slice U2 r.ws.length n2)) (r.regs.map (Value.int .u32)) (B2.out.below k5 hz2') (resL_regs h16) _ Try.underlying29 rfl 16 info_rregs (by simp [h16]) ?_)
  refine (refValue_any r.regs ib w5 h16 bb).mono ?_; rintro e w6 ⟨rfl, hb6⟩
  rw [← HVB.out]
  have l6 := l5.to hb6
  have k6 := k5.to hb6
  clear hb6 j0 j1 j2 j3 j4
  have j0 := Kept.cell l6 hz4 I0h.out
  have j1 := Kept.cell l6 hz4 I1h.out
  have j2 := Kept.cell l6 hz4 I2h.out
  have j3 := Kept.cell l6 hz4 I3h.out
  have j4 := Kept.cell l6 hz4 I4h.out
  go_wp2_with fail
  refine (refForm_any _ _).mono ?_; rintro e w7 ⟨rfl, rfl⟩
  rw [HFO.out]
  have HDB := Lib.hid (show doB ⟨op, (id : Int), (ia : Int), (ib : Int), imm⟩ vb = false by rw [HVB.out]; exact HDB0.out)
  go_wp2_with fail
  refine (refDo_any ⟨op, (id : Int), (ia : Int), (ib : Int), imm⟩ va vb _ (by omega) (by omega)).mono ?_; rintro e w7 ⟨rfl, hb7⟩
  rw [HDB.out]
  have l7 := l6.to hb7
  have k7 := k6.to hb7
  clear hb7 j0 j1 j2 j3 j4
  go_wp2_with (refine wpList_load_box rfl 32 (.tmp 4) rfl (w.heap.size + 1) 0 rfl (resL r (.slice M2 r.mem.length m2) (.slice U2 r.ws.length n2)) (resL r (.slice M2 r.mem.length m2) (.slice U2 r.ws.length n2)) (B2.out.below k7 hz2') (fun j v hv => by rw [Nat.zero_add]; exact hv) _ Try.underlying32 rfl 23 info_res (resL_len h16) ?_)
  refine (refTrap_any r M2 U2 r.mem.length m2 r.ws.length n2 3 (k : Int) _ h16).mono ?_; rintro e w8 ⟨rfl, hbt⟩
  have kt : Kept w2 w8 := k7.to hbt
  have T16 := Lib.hid (show (trapZ r 3 (k : Int)).regs.length = 16 from h16)
  clear hbt
  go_wp2_with (refine wpList_store_box rfl 32 (.tmp 6) (.tmp 115) rfl (w.heap.size + 2) 0 (resL (trapZ r 3 (k : Int)) (.slice M2 r.mem.length m2) (.slice U2 r.ws.length n2)) rfl rfl (resL noRes (.slice none 0 0) (.slice none 0 0)) (Q2.out.below kt hz2'') (by rw [resL_len T16.out, resL_len rfl]; exact Nat.le_refl _) 23 info_res (resL_len T16.out) (resL_one rfl rfl) ?_; intro w9 B9 hg9; rw [splice_whole _ _ (by rw [resL_len T16.out, resL_len rfl])] at B9)
  refine bodyPost_ret (v := .tuple #[.agg (resL (trapZ r 3 (k : Int)) (.slice M2 r.mem.length m2) (.slice U2 r.ws.length n2)).toArray, .int .i64 (k : Int)]) ?_ rfl ⟨_, _, rfl, ?_, ?_⟩
  · exact results_cell_tmp' Try.results15 _ _ _ ⟨w.heap.size + 2, 0, none⟩ _ _ rfl (load_res B9 T16.out) rfl
  · exact ((show ResOwn w8 (w.heap.size + 3) _ _ (trapZ r 3 (k : Int)) from ⟨own_below O2.out.mem kt, own_below O2.out.ws kt, h16⟩).grown hg9 (by omega)).base (by omega)
  · exact Below.grown (b2'.out.trans (kt.mono (Nat.le_of_lt hz2))) hg9 ((b2'.out.trans (kt.mono (Nat.le_of_lt hz2))).size) (fun k hk => grown_ge hk (by omega))

set_option maxRecDepth 100000 in
set_option maxHeartbeats 1000000 in
theorem refStep_do1 (cb co c d : Nat) (D : Option Addr) (p : Prog) (M U : Option Addr) (m u : Nat) (r : Res) (w : World) (k : Nat) (op imm : Int) (id ia ib : Nat) (hp : ProgV w w.heap.size (.slice (some ⟨cb, co, none⟩) p.code.length c) (.slice D p.data.length d) p) (hr : ResV w w.heap.size (.slice M r.mem.length m) (.slice U r.ws.length u) r) (hm : r.mem.length ≤ 140737488355328) (hw : r.ws.length ≤ 1000000000000) (fr : r.Fits) (h0 : r.e = 0) (h1 : p.right = true) (h2 : (r.mem.length : Int) = p.size) (hi : p.code[k]? = some ⟨op, (id : Int), (ia : Int), (ib : Int), imm⟩) (hri : rightB ⟨op, (id : Int), (ia : Int), (ib : Int), imm⟩ = true) (bd : id ≤ 15) (ba : ia ≤ 15) (bb : ib ≤ 15) (bi : -8192 ≤ imm ∧ imm ≤ 8191) (hform : formZ op = 1) (hd : doB ⟨op, (id : Int), (ia : Int), (ib : Int), imm⟩ (valZ r.regs ib) = true) :
    Calls Try.prog 15 #[.agg #[.slice (some ⟨cb, co, none⟩) p.code.length c, .int .i64 p.size, .slice D p.data.length d], .agg (resL r (.slice M r.mem.length m) (.slice U r.ws.length u)).toArray, .int .i64 (k : Int)] w fun e w' => ∃ vm' vw', e = .returned (.tuple #[.agg (resL ((bumpZ { r with regs := setZ r.regs id (doZ ⟨op, (id : Int), (ia : Int), (ib : Int), imm⟩ (valZ r.regs ia) (valZ r.regs ib)) }, (k : Int) + 1)).1 vm' vw').toArray, .int .i64 ((bumpZ { r with regs := setZ r.regs id (doZ ⟨op, (id : Int), (ia : Int), (ib : Int), imm⟩ (valZ r.regs ia) (valZ r.regs ib)) }, (k : Int) + 1)).2]) ∧ ResOwn w' w.heap.size vm' vw' ((bumpZ { r with regs := setZ r.regs id (doZ ⟨op, (id : Int), (ia : Int), (ib : Int), imm⟩ (valZ r.regs ia) (valZ r.regs ib)) }, (k : Int) + 1)).1 ∧ Below w.heap.size w w' := by
  obtain ⟨dz, hdz⟩ : ∃ x, x = doZ ⟨op, (id : Int), (ia : Int), (ib : Int), imm⟩ (valZ r.regs ia) (valZ r.regs ib) := ⟨_, rfl⟩
  rw [← hdz]
  have HDZ := Lib.hid hdz
  clear hdz
  have HDB0 := Lib.hid hd
  clear hd
  have q0 : (r.e != 0) = false := by simp; exact h0
  have q2 : ((r.mem.length : Int) != p.size) = false := by simp; exact h2
  have HRT : Hid (p.right = true) := h1
  have hc2 : p.code.length ≤ 2000 := by have h1' := h1; unfold Prog.right at h1'; simp only [Bool.and_eq_true, decide_eq_true_eq] at h1'; omega
  have hkl : k < p.code.length := (List.getElem?_eq_some_iff.1 hi).1
  have hk0 : (0 : Int) ≤ k := by omega
  have hk1 : (k : Int) < p.code.length := by omega
  have HI := Lib.hid (fun (x : World) (h : Below w.heap.size w x) => (hp.code.below h).ins hi)
  have HFO : Hid (formZ op = 1) := hform
  have FR := Lib.hid fr
  have va0 := valZ_range fr.2.2.2.2.2.1 ia
  have vb0 := valZ_range fr.2.2.2.2.2.1 ib
  obtain ⟨va, hva⟩ : ∃ v, v = valZ r.regs ia := ⟨_, rfl⟩
  obtain ⟨vb, hvb⟩ : ∃ v, v = valZ r.regs ib := ⟨_, rfl⟩
  rw [← hva] at va0
  rw [← hvb] at vb0
  obtain ⟨adr, hadr⟩ : ∃ a, a = (va + imm) % 4294967296 := ⟨_, rfl⟩
  have had : (va + imm % 4294967296) % 4294967296 = adr := by rw [hadr]; omega
  have ad0 : 0 ≤ adr ∧ adr ≤ 4294967295 := by omega
  have HVA := Lib.hid hva
  have HVB := Lib.hid hvb
  have HAD := Lib.hid hadr
  obtain ⟨bi0, bi1⟩ := bi
  clear h0 h1 h2 fr hva hvb hadr hform hi
  obtain ⟨u1, u2⟩ := hp.code.cap
  obtain ⟨u3, u4⟩ := hp.data.cap
  have h16 := hr.regs
  have hs : (((w.alloc (.cells #[.slice (some ⟨cb, co, none⟩) p.code.length c, .int .i64 p.size, .slice D p.data.length d] 25)).alloc (.cells (resL r (.slice M r.mem.length m) (.slice U r.ws.length u)).toArray 32)).alloc (.cells #[.int .i64 0, .int .i64 0, .int .i64 0, .int .i64 0, .int .i64 0, .int .u32 0, .int .u32 0, .int .u32 0, .int .u32 0, .int .u32 0, .int .u32 0, .int .u32 0, .int .u32 0, .int .u32 0, .int .u32 0, .int .u32 0, .int .u32 0, .int .u32 0, .int .u32 0, .int .u32 0, .int .u32 0, .slice none 0 0, .slice none 0 0] 32)).heap.size = w.heap.size + 3 := by simp
  have HB := Lib.hid ((((Below.refl w.heap.size w).alloc (Nat.le_refl _) (.cells #[.slice (some ⟨cb, co, none⟩) p.code.length c, .int .i64 p.size, .slice D p.data.length d] 25)).alloc (by simp) (.cells (resL r (.slice M r.mem.length m) (.slice U r.ws.length u)).toArray 32)).alloc (by simp; omega) (.cells #[.int .i64 0, .int .i64 0, .int .i64 0, .int .i64 0, .int .i64 0, .int .u32 0, .int .u32 0, .int .u32 0, .int .u32 0, .int .u32 0, .int .u32 0, .int .u32 0, .int .u32 0, .int .u32 0, .int .u32 0, .int .u32 0, .int .u32 0, .int .u32 0, .int .u32 0, .int .u32 0, .int .u32 0, .slice none 0 0, .slice none 0 0] 32))
  have HV := Lib.hid (((hr.below HB.out).more (show w.heap.size ≤ (((w.alloc (.cells #[.slice (some ⟨cb, co, none⟩) p.code.length c, .int .i64 p.size, .slice D p.data.length d] 25)).alloc (.cells (resL r (.slice M r.mem.length m) (.slice U r.ws.length u)).toArray 32)).alloc (.cells #[.int .i64 0, .int .i64 0, .int .i64 0, .int .i64 0, .int .i64 0, .int .u32 0, .int .u32 0, .int .u32 0, .int .u32 0, .int .u32 0, .int .u32 0, .int .u32 0, .int .u32 0, .int .u32 0, .int .u32 0, .int .u32 0, .int .u32 0, .int .u32 0, .int .u32 0, .int .u32 0, .int .u32 0, .slice none 0 0, .slice none 0 0] 32)).heap.size by rw [hs]; omega)))
  have HP0 := Lib.hid (fun (x : World) (h : Below w.heap.size w x) => hp.below h)
  have e0 : Hid ((((w.alloc (.cells #[.slice (some ⟨cb, co, none⟩) p.code.length c, .int .i64 p.size, .slice D p.data.length d] 25)).alloc (.cells (resL r (.slice M r.mem.length m) (.slice U r.ws.length u)).toArray 32)).alloc (.cells #[.int .i64 0, .int .i64 0, .int .i64 0, .int .i64 0, .int .i64 0, .int .u32 0, .int .u32 0, .int .u32 0, .int .u32 0, .int .u32 0, .int .u32 0, .int .u32 0, .int .u32 0, .int .u32 0, .int .u32 0, .int .u32 0, .int .u32 0, .int .u32 0, .int .u32 0, .int .u32 0, .int .u32 0, .slice none 0 0, .slice none 0 0] 32)).cell? ⟨w.heap.size, 0, none⟩ = some (.slice (some ⟨cb, co, none⟩) p.code.length c)) := by show _ = _; go_simp
  have e1 : Hid ((((w.alloc (.cells #[.slice (some ⟨cb, co, none⟩) p.code.length c, .int .i64 p.size, .slice D p.data.length d] 25)).alloc (.cells (resL r (.slice M r.mem.length m) (.slice U r.ws.length u)).toArray 32)).alloc (.cells #[.int .i64 0, .int .i64 0, .int .i64 0, .int .i64 0, .int .i64 0, .int .u32 0, .int .u32 0, .int .u32 0, .int .u32 0, .int .u32 0, .int .u32 0, .int .u32 0, .int .u32 0, .int .u32 0, .int .u32 0, .int .u32 0, .int .u32 0, .int .u32 0, .int .u32 0, .int .u32 0, .int .u32 0, .slice none 0 0, .slice none 0 0] 32)).cell? ⟨w.heap.size, 1, none⟩ = some (.int .i64 p.size)) := by show _ = _; go_simp
  have e2 : Hid ((((w.alloc (.cells #[.slice (some ⟨cb, co, none⟩) p.code.length c, .int .i64 p.size, .slice D p.data.length d] 25)).alloc (.cells (resL r (.slice M r.mem.length m) (.slice U r.ws.length u)).toArray 32)).alloc (.cells #[.int .i64 0, .int .i64 0, .int .i64 0, .int .i64 0, .int .i64 0, .int .u32 0, .int .u32 0, .int .u32 0, .int .u32 0, .int .u32 0, .int .u32 0, .int .u32 0, .int .u32 0, .int .u32 0, .int .u32 0, .int .u32 0, .int .u32 0, .int .u32 0, .int .u32 0, .int .u32 0, .int .u32 0, .slice none 0 0, .slice none 0 0] 32)).cell? ⟨w.heap.size, 2, none⟩ = some (.slice D p.data.length d)) := by show _ = _; go_simp
  have B0 : Hid (Box (((w.alloc (.cells #[.slice (some ⟨cb, co, none⟩) p.code.length c, .int .i64 p.size, .slice D p.data.length d] 25)).alloc (.cells (resL r (.slice M r.mem.length m) (.slice U r.ws.length u)).toArray 32)).alloc (.cells #[.int .i64 0, .int .i64 0, .int .i64 0, .int .i64 0, .int .i64 0, .int .u32 0, .int .u32 0, .int .u32 0, .int .u32 0, .int .u32 0, .int .u32 0, .int .u32 0, .int .u32 0, .int .u32 0, .int .u32 0, .int .u32 0, .int .u32 0, .int .u32 0, .int .u32 0, .int .u32 0, .int .u32 0, .slice none 0 0, .slice none 0 0] 32)) (w.heap.size + 1) (resL r (.slice M r.mem.length m) (.slice U r.ws.length u))) := by
    have := ((Box.new (w.alloc (.cells #[.slice (some ⟨cb, co, none⟩) p.code.length c, .int .i64 p.size, .slice D p.data.length d] 25)) (resL r (.slice M r.mem.length m) (.slice U r.ws.length u)) 32).alloc (.cells #[.int .i64 0, .int .i64 0, .int .i64 0, .int .i64 0, .int .i64 0, .int .u32 0, .int .u32 0, .int .u32 0, .int .u32 0, .int .u32 0, .int .u32 0, .int .u32 0, .int .u32 0, .int .u32 0, .int .u32 0, .int .u32 0, .int .u32 0, .int .u32 0, .int .u32 0, .int .u32 0, .int .u32 0, .slice none 0 0, .slice none 0 0] 32))
    have e : (w.alloc (.cells #[.slice (some ⟨cb, co, none⟩) p.code.length c, .int .i64 p.size, .slice D p.data.length d] 25)).heap.size = w.heap.size + 1 := by simp
    rw [e] at this
    exact this
  have Q0 : Hid (Box (((w.alloc (.cells #[.slice (some ⟨cb, co, none⟩) p.code.length c, .int .i64 p.size, .slice D p.data.length d] 25)).alloc (.cells (resL r (.slice M r.mem.length m) (.slice U r.ws.length u)).toArray 32)).alloc (.cells #[.int .i64 0, .int .i64 0, .int .i64 0, .int .i64 0, .int .i64 0, .int .u32 0, .int .u32 0, .int .u32 0, .int .u32 0, .int .u32 0, .int .u32 0, .int .u32 0, .int .u32 0, .int .u32 0, .int .u32 0, .int .u32 0, .int .u32 0, .int .u32 0, .int .u32 0, .int .u32 0, .int .u32 0, .slice none 0 0, .slice none 0 0] 32)) (w.heap.size + 2) (resL noRes (.slice none 0 0) (.slice none 0 0))) := by
    have := Box.new ((w.alloc (.cells #[.slice (some ⟨cb, co, none⟩) p.code.length c, .int .i64 p.size, .slice D p.data.length d] 25)).alloc (.cells (resL r (.slice M r.mem.length m) (.slice U r.ws.length u)).toArray 32)) (resL noRes (.slice none 0 0) (.slice none 0 0)) 32
    have e : ((w.alloc (.cells #[.slice (some ⟨cb, co, none⟩) p.code.length c, .int .i64 p.size, .slice D p.data.length d] 25)).alloc (.cells (resL r (.slice M r.mem.length m) (.slice U r.ws.length u)).toArray 32)).heap.size = w.heap.size + 2 := by simp
    rw [e] at this
    exact this
  clear hp hr
  go_enter Try.func15, Try.ntmps15
  go_wp2_with (refine wpList_load_box rfl 32 (.tmp 4) rfl (w.heap.size + 1) 0 rfl (resL r (.slice M r.mem.length m) (.slice U r.ws.length u)) (resL r (.slice M r.mem.length m) (.slice U r.ws.length u)) B0.out (fun j v hv => by rw [Nat.zero_add]; exact hv) _ Try.underlying32 rfl 23 info_res (resL_len h16) ?_)
  generalize (((w.alloc (.cells #[.slice (some ⟨cb, co, none⟩) p.code.length c, .int .i64 p.size, .slice D p.data.length d] 25)).alloc (.cells (resL r (.slice M r.mem.length m) (.slice U r.ws.length u)).toArray 32)).alloc (.cells #[.int .i64 0, .int .i64 0, .int .i64 0, .int .i64 0, .int .i64 0, .int .u32 0, .int .u32 0, .int .u32 0, .int .u32 0, .int .u32 0, .int .u32 0, .int .u32 0, .int .u32 0, .int .u32 0, .int .u32 0, .int .u32 0, .int .u32 0, .int .u32 0, .int .u32 0, .int .u32 0, .int .u32 0, .slice none 0 0, .slice none 0 0] 32)) = W0 at *
  refine (refCopy_any r _ _ W0 HV.out hm hw).mono ?_; rintro e w1 ⟨vm1, vw1, rfl, hO1, hb1⟩
  obtain ⟨M2, m2, rfl⟩ := (Row.of_own hO1.mem).form
  obtain ⟨U2, n2, rfl⟩ := (Row.of_own hO1.ws).form
  rw [hs] at hO1 hb1
  have B1 := Lib.hid (B0.out.below hb1 (by omega))
  have Q1 := Lib.hid (Q0.out.below hb1 (by omega))
  have O1 := Lib.hid hO1
  have b1 := Lib.hid (HB.out.trans (hb1.mono (show w.heap.size ≤ w.heap.size + 3 by omega)))
  clear hO1
  go_wp2_with (refine wpList_store_box rfl 32 (.tmp 4) (.tmp 19) rfl (w.heap.size + 1) 0 (resL r (.slice M2 r.mem.length m2) (.slice U2 r.ws.length n2)) rfl rfl (resL r (.slice M r.mem.length m) (.slice U r.ws.length u)) B1.out (by rw [resL_len h16, resL_len h16]; exact Nat.le_refl _) 23 info_res (resL_len h16) (resL_one rfl rfl) ?_; intro w2 B2' hg2; rw [splice_whole _ _ (by rw [resL_len h16, resL_len h16])] at B2'; have hz1 : w.heap.size + 3 ≤ w1.heap.size := (by have := hb1.size; omega); have b2' := Lib.hid (show Below w.heap.size w w2 from Below.grown b1.out hg2 (Nat.le_trans (Nat.le_add_right _ 3) hz1) (fun k hk => grown_ge hk (Nat.le_succ _))); have B2 := Lib.hid B2'; have Q2 := Lib.hid (Q1.out.grown hg2 (fun h => by injection h with h; omega)); have O2 := Lib.hid (O1.out.grown hg2 (by omega)); have p0 := cell_over hb1 hg2 (show w.heap.size < w.heap.size + 3 by omega) hz1 (show w.heap.size ≠ w.heap.size + 1 by omega) e0.out; have p1 := cell_over hb1 hg2 (show w.heap.size < w.heap.size + 3 by omega) hz1 (show w.heap.size ≠ w.heap.size + 1 by omega) e1.out; have p2 := cell_over hb1 hg2 (show w.heap.size < w.heap.size + 3 by omega) hz1 (show w.heap.size ≠ w.heap.size + 1 by omega) e2.out; have P0h := Lib.hid p0; have P1h := Lib.hid p1; have P2h := Lib.hid p2; have z0 := B2'.cell resL_0; have z21 := B2'.cell (resL_21 h16); have g2' := Lib.hid hg2)
  have hz2 : w.heap.size < w2.heap.size := by have := Q2.out.lt; omega
  have hz2' : w.heap.size + 1 < w2.heap.size := by have := Q2.out.lt; omega
  have hz2'' : w.heap.size + 2 < w2.heap.size := Q2.out.lt
  clear p0 p1 p2 z0 z21 hg2
  refine (refRight_any (some ⟨cb, co, none⟩) c p.size D p.data.length d p.code _ (((HP0.out _ b2'.out).code).more (Nat.le_of_lt hz2)) u3 u4).mono ?_; rintro e w3 ⟨rfl, hb3⟩
  rw [show rightZ p.code p.size p.data.length = true from HRT.out]
  have k3 : Kept w2 w3 := hb3
  clear hb3
  have p0 := Kept.cell k3 hz2 P0h.out
  have p1 := Kept.cell k3 hz2 P1h.out
  have p2 := Kept.cell k3 hz2 P2h.out
  have z0 := ((B2.out).below k3 hz2').cell resL_0
  have z21 := ((B2.out).below k3 hz2').cell (resL_21 h16)
  obtain ⟨y0, y1, y2, y3, y4⟩ := HI.out _ (b2'.out.trans (k3.mono (Nat.le_of_lt hz2)))
  go_wp2_with (refine wpList_load_box rfl 29 (.tmp 57) rfl (w.heap.size + 1) 5 rfl (resL r (.slice M2 r.mem.length m2) (.slice U2 r.ws.length n2)) (r.regs.map (Value.int .u32)) ((B2.out.below k3 hz2').alloc (.cells #[.int .i64 op, .int .i64 (id : Int), .int .i64 (ia : Int), .int .i64 (ib : Int), .int .i64 imm] 51)) (resL_regs h16) _ Try.underlying29 rfl 16 info_rregs (by simp [h16]) ?_)
  have i0 : (w3.alloc (.cells #[.int .i64 op, .int .i64 (id : Int), .int .i64 (ia : Int), .int .i64 (ib : Int), .int .i64 imm] 51)).cell? ⟨w3.heap.size, 0, none⟩ = some (.int .i64 op) := by go_simp
  have i1 : (w3.alloc (.cells #[.int .i64 op, .int .i64 (id : Int), .int .i64 (ia : Int), .int .i64 (ib : Int), .int .i64 imm] 51)).cell? ⟨w3.heap.size, 1, none⟩ = some (.int .i64 (id : Int)) := by go_simp
  have i2 : (w3.alloc (.cells #[.int .i64 op, .int .i64 (id : Int), .int .i64 (ia : Int), .int .i64 (ib : Int), .int .i64 imm] 51)).cell? ⟨w3.heap.size, 2, none⟩ = some (.int .i64 (ia : Int)) := by go_simp
  have i3 : (w3.alloc (.cells #[.int .i64 op, .int .i64 (id : Int), .int .i64 (ia : Int), .int .i64 (ib : Int), .int .i64 imm] 51)).cell? ⟨w3.heap.size, 3, none⟩ = some (.int .i64 (ib : Int)) := by go_simp
  have i4 : (w3.alloc (.cells #[.int .i64 op, .int .i64 (id : Int), .int .i64 (ia : Int), .int .i64 (ib : Int), .int .i64 imm] 51)).cell? ⟨w3.heap.size, 4, none⟩ = some (.int .i64 imm) := by go_simp
  have hz4 : w3.heap.size < (w3.alloc (.cells #[.int .i64 op, .int .i64 (id : Int), .int .i64 (ia : Int), .int .i64 (ib : Int), .int .i64 imm] 51)).heap.size := by simp
  have k4 : Kept w2 (w3.alloc (.cells #[.int .i64 op, .int .i64 (id : Int), .int .i64 (ia : Int), .int .i64 (ib : Int), .int .i64 imm] 51)) := k3.alloc _
  clear p0 p1 p2 z0 z21 y0 y1 y2 y3 y4
  generalize (w3.alloc (.cells #[.int .i64 op, .int .i64 (id : Int), .int .i64 (ia : Int), .int .i64 (ib : Int), .int .i64 imm] 51)) = w4 at *
  have I0h := Lib.hid i0
  have I1h := Lib.hid i1
  have I2h := Lib.hid i2
  have I3h := Lib.hid i3
  have I4h := Lib.hid i4
  clear i0 i1 i2 i3 i4
  refine (refValue_any r.regs ia w4 h16 ba).mono ?_; rintro e w5 ⟨rfl, hb5⟩
  rw [← HVA.out]
  have l5 : Kept w4 w5 := hb5
  have k5 := k4.to hb5
  clear hb5
  have j0 := Kept.cell l5 hz4 I0h.out
  have j1 := Kept.cell l5 hz4 I1h.out
  have j2 := Kept.cell l5 hz4 I2h.out
  have j3 := Kept.cell l5 hz4 I3h.out
  have j4 := Kept.cell l5 hz4 I4h.out
  go_wp2_with (refine wpList_load_box rfl 29 (.tmp 62) rfl (w.heap.size + 1) 5 rfl (resL r (.slice M2 r.mem.length m2) (.slice U2 r.ws.length n2)) (r.regs.map (Value.int .u32)) (B2.out.below k5 hz2') (resL_regs h16) _ Try.underlying29 rfl 16 info_rregs (by simp [h16]) ?_)
  refine (refValue_any r.regs ib w5 h16 bb).mono ?_; rintro e w6 ⟨rfl, hb6⟩
  rw [← HVB.out]
  have l6 := l5.to hb6
  have k6 := k5.to hb6
  clear hb6 j0 j1 j2 j3 j4
  have j0 := Kept.cell l6 hz4 I0h.out
  have j1 := Kept.cell l6 hz4 I1h.out
  have j2 := Kept.cell l6 hz4 I2h.out
  have j3 := Kept.cell l6 hz4 I3h.out
  have j4 := Kept.cell l6 hz4 I4h.out
  go_wp2_with fail
  refine (refForm_any _ _).mono ?_; rintro e w7 ⟨rfl, rfl⟩
  rw [HFO.out]
  have HDB := Lib.hid (show doB ⟨op, (id : Int), (ia : Int), (ib : Int), imm⟩ vb = true by rw [HVB.out]; exact HDB0.out)
  go_wp2_with fail
  refine (refDo_any ⟨op, (id : Int), (ia : Int), (ib : Int), imm⟩ va vb _ (by omega) (by omega)).mono ?_; rintro e w7 ⟨rfl, hb7⟩
  rw [HDB.out]
  have l7 := l6.to hb7
  have k7 := k6.to hb7
  clear hb7 j0 j1 j2 j3 j4
  rw [show doZ ⟨op, (id : Int), (ia : Int), (ib : Int), imm⟩ va vb = dz by rw [HVA.out, HVB.out]; exact HDZ.out.symm]
  have j0 := Kept.cell l7 hz4 I0h.out
  have j1 := Kept.cell l7 hz4 I1h.out
  have j2 := Kept.cell l7 hz4 I2h.out
  have j3 := Kept.cell l7 hz4 I3h.out
  have j4 := Kept.cell l7 hz4 I4h.out
  go_wp2_with fail
  refine (refSet_box (w.heap.size + 1) id dz _ _ (B2.out.below k7 hz2') (resL_len h16) bd).mono ?_; rintro e w8 ⟨rfl, hB8, hg8⟩
  rw [resL_setZ h16 id bd dz] at hB8
  have B8 := Lib.hid hB8
  have Q8 := Lib.hid ((Q2.out.below k7 hz2'').grown hg8 (fun h => by injection h with h; omega))
  have S16 : (setZ r.regs id dz).length = 16 := by rw [setZ_len]; exact h16
  have o8 := (show ResOwn w7 (w.heap.size + 3) _ _ r from ⟨own_below O2.out.mem k7, own_below O2.out.ws k7, h16⟩).grown hg8 (by omega)
  have O8 := Lib.hid (show ResOwn w8 (w.heap.size + 3) (.slice M2 r.mem.length m2) (.slice U2 r.ws.length n2) { r with regs := setZ r.regs id dz } from ⟨o8.mem, o8.ws, S16⟩)
  have L8 := Lib.hid (Below.grown (b2'.out.trans (k7.mono (Nat.le_of_lt hz2))) hg8 ((b2'.out.trans (k7.mono (Nat.le_of_lt hz2))).size) (fun k hk => grown_ge hk (Nat.le_succ _)))
  clear j0 j1 j2 j3 j4 o8 hB8 hg8
  have z4 := B8.out.cell resL_4
  have z0 := B8.out.cell resL_0
  have f4 := B8.out.frozen 4
  have N16 := Lib.hid (show (bumpZ { r with regs := setZ r.regs id dz }).regs.length = 16 from S16)
  go_wp2_with (first
    | (refine wpList_load_box rfl 32 (.tmp 4) rfl (w.heap.size + 1) 0 rfl (resL (bumpZ { r with regs := setZ r.regs id dz }) (.slice M2 r.mem.length m2) (.slice U2 r.ws.length n2)) (resL (bumpZ { r with regs := setZ r.regs id dz }) (.slice M2 r.mem.length m2) (.slice U2 r.ws.length n2)) (resL_set4 (r := { r with regs := setZ r.regs id dz }) (wrap64 (r.st + 1)) ▸ (B8.out).setCell 4 (.int .i64 (wrap64 (r.st + 1)))) (fun j v hv => by rw [Nat.zero_add]; exact hv) _ Try.underlying32 rfl 23 info_res (resL_len N16.out) ?_)
    | (refine wpList_store_box rfl 32 (.tmp 6) (.tmp 186) rfl (w.heap.size + 2) 0 (resL (bumpZ { r with regs := setZ r.regs id dz }) (.slice M2 r.mem.length m2) (.slice U2 r.ws.length n2)) rfl rfl (resL noRes (.slice none 0 0) (.slice none 0 0)) ((Q8.out).setCell_other (Nat.ne_of_gt (Nat.lt_succ_self _)) 4 (.int .i64 (wrap64 (r.st + 1)))) (by rw [resL_len N16.out, resL_len rfl]; exact Nat.le_refl _) 23 info_res (resL_len N16.out) (resL_one rfl rfl) ?_; intro w9 B9 hg9; rw [splice_whole _ _ (by rw [resL_len N16.out, resL_len rfl])] at B9))
  refine bodyPost_ret (v := .tuple #[.agg (resL (bumpZ { r with regs := setZ r.regs id dz }) (.slice M2 r.mem.length m2) (.slice U2 r.ws.length n2)).toArray, .int .i64 ((k : Int) + 1)]) ?_ rfl ⟨_, _, rfl, ?_, ?_⟩
  · exact results_cell_tmp' Try.results15 _ _ _ ⟨w.heap.size + 2, 0, none⟩ _ _ rfl (load_res B9 N16.out) rfl
  · have o9 := ((O8.out).setCell (b := w.heap.size + 1) (by omega) 4 (.int .i64 (wrap64 (r.st + 1)))).grown hg9 (by omega)
    exact (show ResOwn w9 (w.heap.size + 3) _ _ (bumpZ { r with regs := setZ r.regs id dz }) from ⟨o9.mem, o9.ws, o9.regs⟩).base (by omega)
  · exact Below.grown (Below.setCell (L8.out) (Nat.le_succ _) _) hg9 (Below.setCell (L8.out) (Nat.le_succ _) _).size (fun k hk => grown_ge hk (by omega))

end Go.Proofs.Ytjbobihiigeapaa.Words

/- Several texts in one: RefStepE, RefStepF, RunMath2, RefRun. -/
import Derived.Test.YtjbobihiigeapaaG03
import Derived.Test.YtjbobihiigeapaaG02
import Derived.Test.YtjbobihiigeapaaG09
import Derived.Test.YtjbobihiigeapaaG11
import Derived.Test.YtjbobihiigeapaaG12
import Derived.Test.YtjbobihiigeapaaG05
import Derived.Test.YtjbobihiigeapaaG06
import Derived.Test.YtjbobihiigeapaaG13
import Derived.Test.YtjbobihiigeapaaG14
import Derived.Test.YtjbobihiigeapaaG15
import Derived.Test.YtjbobihiigeapaaG16
import Derived.Test.YtjbobihiigeapaaG00
import Derived.Test.YtjbobihiigeapaaG10

/- Contract of the document's own Step: loads and stores. -/
namespace Go.Proofs.Ytjbobihiigeapaa.Words
set_option maxRecDepth 100000
open Go.RowKit
set_option linter.unusedVariables false

theorem maskZ_bound {v : Int} (h : 0 ≤ v ∧ v ≤ 4294967295) (s : Int) : 0 ≤ maskZ v s ∧ maskZ v s ≤ 4294967295 := by
  unfold maskZ
  repeat' split
  all_goals omega

set_option maxRecDepth 100000 in
set_option maxHeartbeats 6000000 in
theorem refStep_st (cb co c d : Nat) (D : Option Addr) (p : Prog) (M U : Option Addr) (m u : Nat) (r : Res) (w : World) (k : Nat) (op imm : Int) (id ia ib : Nat) (hp : ProgV w w.heap.size (.slice (some ⟨cb, co, none⟩) p.code.length c) (.slice D p.data.length d) p) (hr : ResV w w.heap.size (.slice M r.mem.length m) (.slice U r.ws.length u) r) (hm : r.mem.length ≤ 140737488355328) (hw : r.ws.length ≤ 1000000000000) (fr : r.Fits) (h0 : r.e = 0) (h1 : p.right = true) (h2 : (r.mem.length : Int) = p.size) (hi : p.code[k]? = some ⟨op, (id : Int), (ia : Int), (ib : Int), imm⟩) (hri : rightB ⟨op, (id : Int), (ia : Int), (ib : Int), imm⟩ = true) (bd : id ≤ 15) (ba : ia ≤ 15) (bb : ib ≤ 15) (bi : -8192 ≤ imm ∧ imm ≤ 8191) (hform : formZ op = 5) (hck : checkZ (sizeZ op) ((valZ r.regs ia + imm) % 4294967296) p.size = 0) :
    Calls Try.prog 15 #[.agg #[.slice (some ⟨cb, co, none⟩) p.code.length c, .int .i64 p.size, .slice D p.data.length d], .agg (resL r (.slice M r.mem.length m) (.slice U r.ws.length u)).toArray, .int .i64 (k : Int)] w fun e w' => ∃ vm' vw', e = .returned (.tuple #[.agg (resL ((bumpZ { r with mem := storeZ r.mem (sizeZ op) ((valZ r.regs ia + imm) % 4294967296) (maskZ (valZ r.regs ib) (sizeZ op)), ws := r.ws ++ [⟨((valZ r.regs ia + imm) % 4294967296), sizeZ op, maskZ (valZ r.regs ib) (sizeZ op)⟩] }, (k : Int) + 1)).1 vm' vw').toArray, .int .i64 ((bumpZ { r with mem := storeZ r.mem (sizeZ op) ((valZ r.regs ia + imm) % 4294967296) (maskZ (valZ r.regs ib) (sizeZ op)), ws := r.ws ++ [⟨((valZ r.regs ia + imm) % 4294967296), sizeZ op, maskZ (valZ r.regs ib) (sizeZ op)⟩] }, (k : Int) + 1)).2]) ∧ ResOwn w' w.heap.size vm' vw' ((bumpZ { r with mem := storeZ r.mem (sizeZ op) ((valZ r.regs ia + imm) % 4294967296) (maskZ (valZ r.regs ib) (sizeZ op)), ws := r.ws ++ [⟨((valZ r.regs ia + imm) % 4294967296), sizeZ op, maskZ (valZ r.regs ib) (sizeZ op)⟩] }, (k : Int) + 1)).1 ∧ Below w.heap.size w w' := by
  obtain ⟨mz, hmz⟩ : ∃ m, m = maskZ (valZ r.regs ib) (sizeZ op) := ⟨_, rfl⟩
  rw [← hmz]
  have HMZ0 := Lib.hid (show 0 ≤ mz ∧ mz ≤ 4294967295 by have := maskZ_bound (valZ_range fr.2.2.2.2.2.1 ib) (sizeZ op); rw [hmz]; exact this)
  have HMZ1 := Lib.hid hmz
  clear hmz
  have q0 : (r.e != 0) = false := by simp; exact h0
  have q2 : ((r.mem.length : Int) != p.size) = false := by simp; exact h2
  have HRT : Hid (p.right = true) := h1
  have hc2 : p.code.length ≤ 2000 := by have h1' := h1; unfold Prog.right at h1'; simp only [Bool.and_eq_true, decide_eq_true_eq] at h1'; omega
  have hkl : k < p.code.length := (List.getElem?_eq_some_iff.1 hi).1
  have hk0 : (0 : Int) ≤ k := by omega
  have hk1 : (k : Int) < p.code.length := by omega
  have HI := Lib.hid (fun (x : World) (h : Below w.heap.size w x) => (hp.code.below h).ins hi)
  have HFO : Hid (formZ op = 5) := hform
  have FR := Lib.hid fr
  have va0 := valZ_range fr.2.2.2.2.2.1 ia
  have vb0 := valZ_range fr.2.2.2.2.2.1 ib
  obtain ⟨va, hva⟩ : ∃ v, v = valZ r.regs ia := ⟨_, rfl⟩
  obtain ⟨vb, hvb⟩ : ∃ v, v = valZ r.regs ib := ⟨_, rfl⟩
  rw [← hva] at va0
  rw [← hvb] at vb0
  obtain ⟨adr, hadr⟩ : ∃ a, a = (va + imm) % 4294967296 := ⟨_, rfl⟩
  have had : (va + imm % 4294967296) % 4294967296 = adr := by rw [hadr]; omega
  have ad0 : 0 ≤ adr ∧ adr ≤ 4294967295 := by omega
  have HVA := Lib.hid hva
  have HVB := Lib.hid hvb
  have HAD := Lib.hid hadr
  obtain ⟨bi0, bi1⟩ := bi
  have HADV : Hid ((valZ r.regs ia + imm) % 4294967296 = adr) := by show _ = _; rw [hadr, hva]
  rw [HADV.out] at hck
  obtain ⟨kd, hkd⟩ : ∃ k, k = checkZ (sizeZ op) adr p.size := ⟨_, rfl⟩
  rw [← hkd] at hck
  have HKD := Lib.hid hkd
  have H2 : Hid ((r.mem.length : Int) = p.size) := h2
  have HWL := Lib.hid hw
  have HMB := Lib.hid fr.2.2.2.2.2.2.1
  rw [HADV.out]
  skip
  subst hck
  skip
  clear hkd
  have hps : 0 ≤ p.size ∧ p.size ≤ 65536 := by have h1' := HRT.out; unfold Prog.right at h1'; simp only [Bool.and_eq_true, decide_eq_true_eq] at h1'; omega
  clear h0 h1 h2 fr hva hvb hadr hform hi
  obtain ⟨u1, u2⟩ := hp.code.cap
  obtain ⟨u3, u4⟩ := hp.data.cap
  have h16 := hr.regs
  have hs : (((w.alloc (.cells #[.slice (some ⟨cb, co, none⟩) p.code.length c, .int .i64 p.size, .slice D p.data.length d] 25)).alloc (.cells (resL r (.slice M r.mem.length m) (.slice U r.ws.length u)).toArray 32)).alloc (.cells #[.int .i64 0, .int .i64 0, .int .i64 0, .int .i64 0, .int .i64 0, .int .u32 0, .int .u32 0, .int .u32 0, .int .u32 0, .int .u32 0, .int .u32 0, .int .u32 0, .int .u32 0, .int .u32 0, .int .u32 0, .int .u32 0, .int .u32 0, .int .u32 0, .int .u32 0, .int .u32 0, .int .u32 0, .slice none 0 0, .slice none 0 0] 32)).heap.size = w.heap.size + 3 := by simp
  have HB := Lib.hid ((((Below.refl w.heap.size w).alloc (Nat.le_refl _) (.cells #[.slice (some ⟨cb, co, none⟩) p.code.length c, .int .i64 p.size, .slice D p.data.length d] 25)).alloc (by simp) (.cells (resL r (.slice M r.mem.length m) (.slice U r.ws.length u)).toArray 32)).alloc (by simp; omega) (.cells #[.int .i64 0, .int .i64 0, .int .i64 0, .int .i64 0, .int .i64 0, .int .u32 0, .int .u32 0, .int .u32 0, .int .u32 0, .int .u32 0, .int .u32 0, .int .u32 0, .int .u32 0, .int .u32 0, .int .u32 0, .int .u32 0, .int .u32 0, .int .u32 0, .int .u32 0, .int .u32 0, .int .u32 0, .slice none 0 0, .slice none 0 0] 32))
  have HV := Lib.hid (((hr.below HB.out).more (show w.heap.size ≤ (((w.alloc (.cells #[.slice (some ⟨cb, co, none⟩) p.code.length c, .int .i64 p.size, .slice D p.data.length d] 25)).alloc (.cells (resL r (.slice M r.mem.length m) (.slice U r.ws.length u)).toArray 32)).alloc (.cells #[.int .i64 0, .int .i64 0, .int .i64 0, .int .i64 0, .int .i64 0, .int .u32 0, .int .u32 0, .int .u32 0, .int .u32 0, .int .u32 0, .int .u32 0, .int .u32 0, .int .u32 0, .int .u32 0, .int .u32 0, .int .u32 0, .int .u32 0, .int .u32 0, .int .u32 0, .int .u32 0, .int .u32 0, .slice none 0 0, .slice none 0 0] 32)).heap.size by rw [hs]; omega)))
  have HP0 := Lib.hid (fun (x : World) (h : Below w.heap.size w x) => hp.below h)
  have e0 : Hid ((((w.alloc (.cells #[.slice (some ⟨cb, co, none⟩) p.code.length c, .int .i64 p.size, .slice D p.data.length d] 25)).alloc (.cells (resL r (.slice M r.mem.length m) (.slice U r.ws.length u)).toArray 32)).alloc (.cells #[.int .i64 0, .int .i64 0, .int .i64 0, .int .i64 0, .int .i64 0, .int .u32 0, .int .u32 0, .int .u32 0, .int .u32 0, .int .u32 0, .int .u32 0, .int .u32 0, .int .u32 0, .int .u32 0, .int .u32 0, .int .u32 0, .int .u32 0, .int .u32 0, .int .u32 0, .int .u32 0, .int .u32 0, .slice none 0 0, .slice none 0 0] 32)).cell? ⟨w.heap.size, 0, none⟩ = some (.slice (some ⟨cb, co, none⟩) p.code.length c)) := by show _ = _; go_simp
  have e1 : Hid ((((w.alloc (.cells #[.slice (some ⟨cb, co, none⟩) p.code.length c, .int .i64 p.size, .slice D p.data.length d] 25)).alloc (.cells (resL r (.slice M r.mem.length m) (.slice U r.ws.length u)).toArray 32)).alloc (.cells #[.int .i64 0, .int .i64 0, .int .i64 0, .int .i64 0, .int .i64 0, .int .u32 0, .int .u32 0, .int .u32 0, .int .u32 0, .int .u32 0, .int .u32 0, .int .u32 0, .int .u32 0, .int .u32 0, .int .u32 0, .int .u32 0, .int .u32 0, .int .u32 0, .int .u32 0, .int .u32 0, .int .u32 0, .slice none 0 0, .slice none 0 0] 32)).cell? ⟨w.heap.size, 1, none⟩ = some (.int .i64 p.size)) := by show _ = _; go_simp
  have e2 : Hid ((((w.alloc (.cells #[.slice (some ⟨cb, co, none⟩) p.code.length c, .int .i64 p.size, .slice D p.data.length d] 25)).alloc (.cells (resL r (.slice M r.mem.length m) (.slice U r.ws.length u)).toArray 32)).alloc (.cells #[.int .i64 0, .int .i64 0, .int .i64 0, .int .i64 0, .int .i64 0, .int .u32 0, .int .u32 0, .int .u32 0, .int .u32 0, .int .u32 0, .int .u32 0, .int .u32 0, .int .u32 0, .int .u32 0, .int .u32 0, .int .u32 0, .int .u32 0, .int .u32 0, .int .u32 0, .int .u32 0, .int .u32 0, .slice none 0 0, .slice none 0 0] 32)).cell? ⟨w.heap.size, 2, none⟩ = some (.slice D p.data.length d)) := by show _ = _; go_simp
  have B0 : Hid (Box (((w.alloc (.cells #[.slice (some ⟨cb, co, none⟩) p.code.length c, .int .i64 p.size, .slice D p.data.length d] 25)).alloc (.cells (resL r (.slice M r.mem.length m) (.slice U r.ws.length u)).toArray 32)).alloc (.cells #[.int .i64 0, .int .i64 0, .int .i64 0, .int .i64 0, .int .i64 0, .int .u32 0, .int .u32 0, .int .u32 0, .int .u32 0, .int .u32 0, .int .u32 0, .int .u32 0, .int .u32 0, .int .u32 0, .int .u32 0, .int .u32 0, .int .u32 0, .int .u32 0, .int .u32 0, .int .u32 0, .int .u32 0, .slice none 0 0, .slice none 0 0] 32)) (w.heap.size + 1) (resL r (.slice M r.mem.length m) (.slice U r.ws.length u))) := by
    have := ((Box.new (w.alloc (.cells #[.slice (some ⟨cb, co, none⟩) p.code.length c, .int .i64 p.size, .slice D p.data.length d] 25)) (resL r (.slice M r.mem.length m) (.slice U r.ws.length u)) 32).alloc (.cells #[.int .i64 0, .int .i64 0, .int .i64 0, .int .i64 0, .int .i64 0, .int .u32 0, .int .u32 0, .int .u32 0, .int .u32 0, .int .u32 0, .int .u32 0, .int .u32 0, .int .u32 0, .int .u32 0, .int .u32 0, .int .u32 0, .int .u32 0, .int .u32 0, .int .u32 0, .int .u32 0, .int .u32 0, .slice none 0 0, .slice none 0 0] 32))
    have e : (w.alloc (.cells #[.slice (some ⟨cb, co, none⟩) p.code.length c, .int .i64 p.size, .slice D p.data.length d] 25)).heap.size = w.heap.size + 1 := by simp
    rw [e] at this
    exact this
  have Q0 : Hid (Box (((w.alloc (.cells #[.slice (some ⟨cb, co, none⟩) p.code.length c, .int .i64 p.size, .slice D p.data.length d] 25)).alloc (.cells (resL r (.slice M r.mem.length m) (.slice U r.ws.length u)).toArray 32)).alloc (.cells #[.int .i64 0, .int .i64 0, .int .i64 0, .int .i64 0, .int .i64 0, .int .u32 0, .int .u32 0, .int .u32 0, .int .u32 0, .int .u32 0, .int .u32 0, .int .u32 0, .int .u32 0, .int .u32 0, .int .u32 0, .int .u32 0, .int .u32 0, .int .u32 0, .int .u32 0, .int .u32 0, .int .u32 0, .slice none 0 0, .slice none 0 0] 32)) (w.heap.size + 2) (resL noRes (.slice none 0 0) (.slice none 0 0))) := by
    have := Box.new ((w.alloc (.cells #[.slice (some ⟨cb, co, none⟩) p.code.length c, .int .i64 p.size, .slice D p.data.length d] 25)).alloc (.cells (resL r (.slice M r.mem.length m) (.slice U r.ws.length u)).toArray 32)) (resL noRes (.slice none 0 0) (.slice none 0 0)) 32
    have e : ((w.alloc (.cells #[.slice (some ⟨cb, co, none⟩) p.code.length c, .int .i64 p.size, .slice D p.data.length d] 25)).alloc (.cells (resL r (.slice M r.mem.length m) (.slice U r.ws.length u)).toArray 32)).heap.size = w.heap.size + 2 := by simp
    rw [e] at this
    exact this
  clear hp hr
  go_enter Try.func15, Try.ntmps15
  go_wp2_with (refine wpList_load_box rfl 32 (.tmp 4) rfl (w.heap.size + 1) 0 rfl (resL r (.slice M r.mem.length m) (.slice U r.ws.length u)) (resL r (.slice M r.mem.length m) (.slice U r.ws.length u)) B0.out (fun j v hv => by rw [Nat.zero_add]; exact hv) _ Try.underlying32 rfl 23 info_res (resL_len h16) ?_)
  generalize (((w.alloc (.cells #[.slice (some ⟨cb, co, none⟩) p.code.length c, .int .i64 p.size, .slice D p.data.length d] 25)).alloc (.cells (resL r (.slice M r.mem.length m) (.slice U r.ws.length u)).toArray 32)).alloc (.cells #[.int .i64 0, .int .i64 0, .int .i64 0, .int .i64 0, .int .i64 0, .int .u32 0, .int .u32 0, .int .u32 0, .int .u32 0, .int .u32 0, .int .u32 0, .int .u32 0, .int .u32 0, .int .u32 0, .int .u32 0, .int .u32 0, .int .u32 0, .int .u32 0, .int .u32 0, .int .u32 0, .int .u32 0, .slice none 0 0, .slice none 0 0] 32)) = W0 at *
  refine (refCopy_any r _ _ W0 HV.out hm hw).mono ?_; rintro e w1 ⟨vm1, vw1, rfl, hO1, hb1⟩
  obtain ⟨M2, m2, rfl⟩ := (Row.of_own hO1.mem).form
  obtain ⟨U2, n2, rfl⟩ := (Row.of_own hO1.ws).form
  rw [hs] at hO1 hb1
  have B1 := Lib.hid (B0.out.below hb1 (by omega))
  have Q1 := Lib.hid (Q0.out.below hb1 (by omega))
  have O1 := Lib.hid hO1
  have b1 := Lib.hid (HB.out.trans (hb1.mono (show w.heap.size ≤ w.heap.size + 3 by omega)))
  clear hO1
  go_wp2_with (refine wpList_store_box rfl 32 (.tmp 4) (.tmp 19) rfl (w.heap.size + 1) 0 (resL r (.slice M2 r.mem.length m2) (.slice U2 r.ws.length n2)) rfl rfl (resL r (.slice M r.mem.length m) (.slice U r.ws.length u)) B1.out (by rw [resL_len h16, resL_len h16]; exact Nat.le_refl _) 23 info_res (resL_len h16) (resL_one rfl rfl) ?_; intro w2 B2' hg2; rw [splice_whole _ _ (by rw [resL_len h16, resL_len h16])] at B2'; have hz1 : w.heap.size + 3 ≤ w1.heap.size := (by have := hb1.size; omega); have b2' := Lib.hid (show Below w.heap.size w w2 from Below.grown b1.out hg2 (Nat.le_trans (Nat.le_add_right _ 3) hz1) (fun k hk => grown_ge hk (Nat.le_succ _))); have B2 := Lib.hid B2'; have Q2 := Lib.hid (Q1.out.grown hg2 (fun h => by injection h with h; omega)); have O2 := Lib.hid (O1.out.grown hg2 (by omega)); have p0 := cell_over hb1 hg2 (show w.heap.size < w.heap.size + 3 by omega) hz1 (show w.heap.size ≠ w.heap.size + 1 by omega) e0.out; have p1 := cell_over hb1 hg2 (show w.heap.size < w.heap.size + 3 by omega) hz1 (show w.heap.size ≠ w.heap.size + 1 by omega) e1.out; have p2 := cell_over hb1 hg2 (show w.heap.size < w.heap.size + 3 by omega) hz1 (show w.heap.size ≠ w.heap.size + 1 by omega) e2.out; have P0h := Lib.hid p0; have P1h := Lib.hid p1; have P2h := Lib.hid p2; have z0 := B2'.cell resL_0; have z21 := B2'.cell (resL_21 h16); have g2' := Lib.hid hg2)
  have hz2 : w.heap.size < w2.heap.size := by have := Q2.out.lt; omega
  have hz2' : w.heap.size + 1 < w2.heap.size := by have := Q2.out.lt; omega
  have hz2'' : w.heap.size + 2 < w2.heap.size := Q2.out.lt
  clear p0 p1 p2 z0 z21 hg2
  refine (refRight_any (some ⟨cb, co, none⟩) c p.size D p.data.length d p.code _ (((HP0.out _ b2'.out).code).more (Nat.le_of_lt hz2)) u3 u4).mono ?_; rintro e w3 ⟨rfl, hb3⟩
  rw [show rightZ p.code p.size p.data.length = true from HRT.out]
  have k3 : Kept w2 w3 := hb3
  clear hb3
  have p0 := Kept.cell k3 hz2 P0h.out
  have p1 := Kept.cell k3 hz2 P1h.out
  have p2 := Kept.cell k3 hz2 P2h.out
  have z0 := ((B2.out).below k3 hz2').cell resL_0
  have z21 := ((B2.out).below k3 hz2').cell (resL_21 h16)
  obtain ⟨y0, y1, y2, y3, y4⟩ := HI.out _ (b2'.out.trans (k3.mono (Nat.le_of_lt hz2)))
  go_wp2_with (refine wpList_load_box rfl 29 (.tmp 57) rfl (w.heap.size + 1) 5 rfl (resL r (.slice M2 r.mem.length m2) (.slice U2 r.ws.length n2)) (r.regs.map (Value.int .u32)) ((B2.out.below k3 hz2').alloc (.cells #[.int .i64 op, .int .i64 (id : Int), .int .i64 (ia : Int), .int .i64 (ib : Int), .int .i64 imm] 51)) (resL_regs h16) _ Try.underlying29 rfl 16 info_rregs (by simp [h16]) ?_)
  have i0 : (w3.alloc (.cells #[.int .i64 op, .int .i64 (id : Int), .int .i64 (ia : Int), .int .i64 (ib : Int), .int .i64 imm] 51)).cell? ⟨w3.heap.size, 0, none⟩ = some (.int .i64 op) := by go_simp
  have i1 : (w3.alloc (.cells #[.int .i64 op, .int .i64 (id : Int), .int .i64 (ia : Int), .int .i64 (ib : Int), .int .i64 imm] 51)).cell? ⟨w3.heap.size, 1, none⟩ = some (.int .i64 (id : Int)) := by go_simp
  have i2 : (w3.alloc (.cells #[.int .i64 op, .int .i64 (id : Int), .int .i64 (ia : Int), .int .i64 (ib : Int), .int .i64 imm] 51)).cell? ⟨w3.heap.size, 2, none⟩ = some (.int .i64 (ia : Int)) := by go_simp
  have i3 : (w3.alloc (.cells #[.int .i64 op, .int .i64 (id : Int), .int .i64 (ia : Int), .int .i64 (ib : Int), .int .i64 imm] 51)).cell? ⟨w3.heap.size, 3, none⟩ = some (.int .i64 (ib : Int)) := by go_simp
  have i4 : (w3.alloc (.cells #[.int .i64 op, .int .i64 (id : Int), .int .i64 (ia : Int), .int .i64 (ib : Int), .int .i64 imm] 51)).cell? ⟨w3.heap.size, 4, none⟩ = some (.int .i64 imm) := by go_simp
  have hz4 : w3.heap.size < (w3.alloc (.cells #[.int .i64 op, .int .i64 (id : Int), .int .i64 (ia : Int), .int .i64 (ib : Int), .int .i64 imm] 51)).heap.size := by simp
  have k4 : Kept w2 (w3.alloc (.cells #[.int .i64 op, .int .i64 (id : Int), .int .i64 (ia : Int), .int .i64 (ib : Int), .int .i64 imm] 51)) := k3.alloc _
  clear p0 p1 p2 z0 z21 y0 y1 y2 y3 y4
  generalize (w3.alloc (.cells #[.int .i64 op, .int .i64 (id : Int), .int .i64 (ia : Int), .int .i64 (ib : Int), .int .i64 imm] 51)) = w4 at *
  have I0h := Lib.hid i0
  have I1h := Lib.hid i1
  have I2h := Lib.hid i2
  have I3h := Lib.hid i3
  have I4h := Lib.hid i4
  clear i0 i1 i2 i3 i4
  refine (refValue_any r.regs ia w4 h16 ba).mono ?_; rintro e w5 ⟨rfl, hb5⟩
  rw [← HVA.out]
  have l5 : Kept w4 w5 := hb5
  have k5 := k4.to hb5
  clear hb5
  have j0 := Kept.cell l5 hz4 I0h.out
  have j1 := Kept.cell l5 hz4 I1h.out
  have j2 := Kept.cell l5 hz4 I2h.out
  have j3 := Kept.cell l5 hz4 I3h.out
  have j4 := Kept.cell l5 hz4 I4h.out
  go_wp2_with (refine wpList_load_box rfl 29 (.tmp 62) rfl (w.heap.size + 1) 5 rfl (resL r (.slice M2 r.mem.length m2) (.slice U2 r.ws.length n2)) (r.regs.map (Value.int .u32)) (B2.out.below k5 hz2') (resL_regs h16) _ Try.underlying29 rfl 16 info_rregs (by simp [h16]) ?_)
  refine (refValue_any r.regs ib w5 h16 bb).mono ?_; rintro e w6 ⟨rfl, hb6⟩
  rw [← HVB.out]
  have l6 := l5.to hb6
  have k6 := k5.to hb6
  clear hb6 j0 j1 j2 j3 j4
  have j0 := Kept.cell l6 hz4 I0h.out
  have j1 := Kept.cell l6 hz4 I1h.out
  have j2 := Kept.cell l6 hz4 I2h.out
  have j3 := Kept.cell l6 hz4 I3h.out
  have j4 := Kept.cell l6 hz4 I4h.out
  go_wp2_with fail
  refine (refForm_any _ _).mono ?_; rintro e w7 ⟨rfl, rfl⟩
  rw [HFO.out]
  have HMZ := Lib.hid (show mz = maskZ vb (sizeZ op) by rw [HVB.out]; exact HMZ1.out)
  have HPS := Lib.hid (Kept.cell k6 hz2 P1h.out)
  have hsz := sizeZ_cases op
  have HSB := Lib.hid (show -9223372036854775808 ≤ sizeZ op ∧ sizeZ op ≤ 9223372036854775807 by omega)
  have HPB := Lib.hid (show -9223372036854775808 ≤ p.size ∧ p.size ≤ 9223372036854775807 by omega)
  clear hsz
  go_wp2_with fail
  have hS : w6.drew.cell? ⟨w3.heap.size, 0, none⟩ = some (.int .i64 op) ∧ w6.drew.cell? ⟨w.heap.size, 1, none⟩ = some (.int .i64 p.size) := ⟨j0, HPS.out⟩
  refine wp_region_lin [(0, true), (1, true), (3, true), (4, true), (5, true), (2, false), (6, false), (7, true)]
    (by kernel_rfl) (by kernel_rfl) rfl (by kernel_rfl) (fun x => x.cell? ⟨w3.heap.size, 0, none⟩ = some (.int .i64 op) ∧ x.cell? ⟨w.heap.size, 1, none⟩ = some (.int .i64 p.size)) ?_
  simp only [List.map_cons, List.map_nil, List.getElem?_toArray, List.getElem?_cons_succ, List.getElem?_cons_zero]
  iterate 5 (refine lin_take (v := ?_) hS (by rfl) ?_ ?_; rotate_left; (intro x hx; obtain ⟨x0, x1⟩ := hx; go_simp; try (with_reducible rfl)); (simp only [Act.put, List.setIfInBounds_toArray, List.set_cons_zero, List.set_cons_succ]))
  refine lin_call hS (by rfl) (fun K hK => ?_)
  go_simp
  refine (refSize_any op _).mono ?_
  rintro e w7 ⟨rfl, rfl⟩
  go_wp2_with fail
  refine hK.out _ _ hS (fun _ => ?_)
  clear hK K
  try simp only [Act.put, List.setIfInBounds_toArray, List.set_cons_zero, List.set_cons_succ]
  refine lin_call hS (by rfl) (fun K hK => ?_)
  go_simp
  refine (refCheck_any (sizeZ op) adr p.size _ ad0.1 ad0.2 HSB.out HPB.out).mono ?_
  rintro e w7 ⟨rfl, rfl⟩
  rw [← HKD.out]
  go_wp2_with fail
  refine hK.out _ _ hS (fun _ => ?_)
  clear hK K
  try simp only [Act.put, List.setIfInBounds_toArray, List.set_cons_zero, List.set_cons_succ]
  (refine lin_take (v := ?_) hS (by rfl) ?_ ?_; rotate_left; (intro x hx; obtain ⟨x0, x1⟩ := hx; go_simp; try (with_reducible rfl)); (simp only [Act.put, List.setIfInBounds_toArray, List.set_cons_zero, List.set_cons_succ]))
  refine lin_done ?_
  clear hS
  have k7 : Kept w2 w6.drew := k6.drew
  have l7 : Kept w4 w6.drew := l6.drew
  go_wp2_with fail
  have hS : w6.drew.drew.cell? ⟨w3.heap.size, 0, none⟩ = some (.int .i64 op) := j0
  have hz6 : w3.heap.size < w6.drew.drew.heap.size := by have := l6.size; show _ < w6.heap.size; omega
  have hSz : (w6.drew.drew.alloc (.cells #[.int .i64 0, .int .i64 0, .int .u32 0] 45)).cell? ⟨w3.heap.size, 0, none⟩ = some (.int .i64 op) := one_cell hz6 hS
  have hSa : (w6.drew.drew.alloc (.cells #[.int .i64 adr, .int .i64 (sizeZ op), .int .u32 mz] 45)).cell? ⟨w3.heap.size, 0, none⟩ = some (.int .i64 op) := one_cell hz6 hS
  clear j0 j1 j2 j3 j4
  refine wp_region_tree _ (LinT.of [(0, true), (1, true), (2, true), (3, true), (5, true), (6, true), (7, true)] (.two 4 11 (LinT.of [] (.two 8 11 (LinT.of [] (.two 9 11 (LinT.of [(10, true), (11, false), (12, false)] .nil) (LinT.of [(9, false), (10, true), (12, false)] .nil))) (LinT.of [(8, false), (9, false), (10, true), (12, false)] .nil))) (LinT.of [(4, false), (8, false), (9, false), (10, true), (12, false)] .nil))) (by kernel_rfl) (by kernel_rfl) rfl (by kernel_rfl) (fun x => x.cell? ⟨w3.heap.size, 0, none⟩ = some (.int .i64 op)) (fun _ _ h => h) ?_
  simp only [LinT.of, LinT.look, List.getElem?_toArray, List.getElem?_cons_succ, List.getElem?_cons_zero]
  have hwa : IntKind.i64.wrap adr = adr := IntWalk.i64_in _ (by omega)
  iterate 7 (refine tree_take (v := ?_) hS (by rfl) ?_ ?_; rotate_left; (intro x hx; go_simp; try (with_reducible rfl)); (simp only [Act.put, List.setIfInBounds_toArray, List.set_cons_zero, List.set_cons_succ]))
  clear hwa
  refine tree_two hS (by rfl) (by rfl) (fun K hK => ?_) (fun K hK => ?_)
  · go_simp
    refine (refSize_any op _).mono ?_
    rintro e w7 ⟨rfl, rfl⟩
    go_wp2_with fail
    refine hK.out _ _ hS (fun _ => ?_)
    clear hK K
    try simp only [Act.put, List.setIfInBounds_toArray, List.set_cons_zero, List.set_cons_succ]
    refine tree_two hS (by rfl) (by rfl) (fun K hK => ?_) (fun K hK => ?_)
    · go_simp
      refine (refSize_any op _).mono ?_
      rintro e w7 ⟨rfl, rfl⟩
      go_wp2_with fail
      refine hK.out _ _ hS (fun _ => ?_)
      clear hK K
      try simp only [Act.put, List.setIfInBounds_toArray, List.set_cons_zero, List.set_cons_succ]
      refine tree_two hS (by rfl) (by rfl) (fun K hK => ?_) (fun K hK => ?_)
      · go_simp
        refine (refMask_any vb (sizeZ op) _ vb0.1 (by omega)).mono ?_
        rintro e w7 ⟨rfl, rfl⟩
        rw [← HMZ.out]
        go_wp2_with fail
        refine hK.out _ _ hS (fun _ => ?_)
        clear hK K
        try simp only [Act.put, List.setIfInBounds_toArray, List.set_cons_zero, List.set_cons_succ]
        (refine tree_take (v := ?_) hS (by rfl) ?_ ?_; rotate_left; (intro x hx; go_simp; try (with_reducible rfl)); (simp only [Act.put, List.setIfInBounds_toArray, List.set_cons_zero, List.set_cons_succ]))
        refine tree_call hS (by rfl) (fun K hK => ?_)
        go_simp
        refine hK.out _ _ hSz (fun _ => ?_)
        clear hK K hS
        have hS := hSz
        try simp only [Act.put, List.setIfInBounds_toArray, List.set_cons_zero, List.set_cons_succ]
        refine tree_call hS (by rfl) (fun K hK => ?_)
        go_simp
        refine hK.out _ _ hSa (fun _ => ?_)
        clear hK K hS
        try simp only [Act.put, List.setIfInBounds_toArray, List.set_cons_zero, List.set_cons_succ]
        refine tree_done ?_
        clear hSa hSz HPS
        have k8 : Kept w2 (w6.alloc (.cells #[.int .i64 adr, .int .i64 (sizeZ op), .int .u32 mz] 45)).drew.drew := (k6.alloc _).drew.drew
        have q0w : (w6.alloc (.cells #[.int .i64 adr, .int .i64 (sizeZ op), .int .u32 mz] 45)).drew.drew.cell? ⟨w6.heap.size, 0, none⟩ = some (.int .i64 adr) := by go_simp
        have q1w : (w6.alloc (.cells #[.int .i64 adr, .int .i64 (sizeZ op), .int .u32 mz] 45)).drew.drew.cell? ⟨w6.heap.size, 1, none⟩ = some (.int .i64 (sizeZ op)) := by go_simp
        have q2w : (w6.alloc (.cells #[.int .i64 adr, .int .i64 (sizeZ op), .int .u32 mz] 45)).drew.drew.cell? ⟨w6.heap.size, 2, none⟩ = some (.int .u32 mz) := by go_simp
        have hwb : w6.heap.size < (w6.alloc (.cells #[.int .i64 adr, .int .i64 (sizeZ op), .int .u32 mz] 45)).drew.drew.heap.size := by simp
        have hwr : w.heap.size + 3 ≤ w6.heap.size := by have := k6.size; omega
        clear k7 l7
        generalize (w6.alloc (.cells #[.int .i64 adr, .int .i64 (sizeZ op), .int .u32 mz] 45)).drew.drew = w7 at *
        generalize w6.heap.size = wb at *
        have z21' := (B2.out.below k8 hz2').cell (resL_21 h16)
        have BB8 := Lib.hid (B2.out.below k8 hz2')
        have QQ8 := Lib.hid (Q2.out.below k8 hz2'')
        have OO8 := Lib.hid (show ResOwn w7 (w.heap.size + 3) _ _ r from ⟨own_below O2.out.mem k8, own_below O2.out.ws k8, h16⟩)
        have L7 := Lib.hid (b2'.out.trans (k8.mono (Nat.le_of_lt hz2)))
        go_wp2_with fail
        refine (refStore_any M2 m2 r.mem.length r.mem mz w7 (sizeZ op) adr (Row.of_own OO8.out.mem) (by have := H2.out; omega) HSB.out (by omega) HMZ0.out).mono ?_
        rintro e w8 ⟨v8, rfl, hown8, hb8⟩
        obtain ⟨A8, c8, rfl⟩ := (Row.of_own hown8).form
        have q0w := below_cell hb8 hwb q0w
        have q1w := below_cell hb8 hwb q1w
        have q2w := below_cell hb8 hwb q2w
        have hrl : w.heap.size + 1 < w7.heap.size := BB8.out.lt
        have BB9 := Lib.hid (BB8.out.below hb8 hrl)
        have QQ9 := Lib.hid (QQ8.out.below hb8 QQ8.out.lt)
        have OW9 := Lib.hid (own_below OO8.out.ws hb8)
        have OM9 := Lib.hid hown8
        have L8 := Lib.hid (L7.out.trans (hb8.mono L7.out.size))
        have hw78 : w7.heap.size ≤ w8.heap.size := hb8.size
        have f21 := BB9.out.frozen 21
        have z21 := BB9.out.cell (resL_21 h16)
        have z22 := BB9.out.cell (resL_22 h16)
        have f22 := BB9.out.frozen 22
        clear hown8 hb8 z21'
        have hwbR : wb ≠ w.heap.size + 1 := by omega
        obtain ⟨i0w, hiw, hzw0, hzw1, hzw2⟩ := info_parts info_wr
        have BS := Lib.hid (BB9.out.setCell 21 (.slice A8 r.mem.length c8))
        have BS' : Hid (Box (w8.setCell ⟨w.heap.size + 1, 21, none⟩ (.slice A8 r.mem.length c8)) (w.heap.size + 1) (resL { r with mem := storeZ r.mem (sizeZ op) adr mz } (.slice A8 r.mem.length c8) (.slice U2 r.ws.length n2))) := by
          have := BS.out
          rwa [resL_set21 h16] at this
        have QS := Lib.hid (QQ9.out.setCell_other (Nat.ne_of_gt (Nat.lt_succ_self _)) 21 (.slice A8 r.mem.length c8))
        have OWS := Lib.hid (ownsRow_setCell_below OW9.out (a := ⟨w.heap.size + 1, 21, none⟩) (show w.heap.size + 1 < w.heap.size + 3 by omega) (.slice A8 r.mem.length c8))
        have OMS := Lib.hid (ownsRow_setCell_below OM9.out (a := ⟨w.heap.size + 1, 21, none⟩) (show w.heap.size + 1 < w7.heap.size by omega) (.slice A8 r.mem.length c8))
        have LS := Lib.hid (show Below w.heap.size w (w8.setCell ⟨w.heap.size + 1, 21, none⟩ (.slice A8 r.mem.length c8)) from Below.setCell L8.out (Nat.le_succ _) _)
        have hsz8 : (w8.setCell ⟨w.heap.size + 1, 21, none⟩ (.slice A8 r.mem.length c8)).heap.size = w8.heap.size := by simp [World.setCell]
        go_wp2_with (first
          | (at_builtin; refine wpList_append_row _ rfl (.tmp 153) (.tmp 155) 30 rfl (w.heap.size + 3) 45 i0w (.agg #[.int .i64 0, .int .i64 0, .int .u32 0]) 3 24 Try.underlying30 hiw hzw0 hzw1 hzw2 rfl (by omega) (.slice U2 r.ws.length n2) r.ws.length (wsL r.ws) rfl (OWS.out.alloc _) ((w8.setCell ⟨w.heap.size + 1, 21, none⟩ (.slice A8 r.mem.length c8)).heap.size + 1) (.slice (some ⟨(w8.setCell ⟨w.heap.size + 1, 21, none⟩ (.slice A8 r.mem.length c8)).heap.size, 0, none⟩) 1 1) 1 [.int .i64 adr, .int .i64 (sizeZ op), .int .u32 mz] (by rw [hsz8]; rfl) (row_one3 _ _ _ _ _) (by simp [Value.oneCell']) (by have := HWL.out; unfold maxLen; omega) (by have := HWL.out; omega) (by simp [World.setCell]; omega) ?_; intro v10 w10 hown10 hg10; have hg11 := Lib.hid (grown_trans (World.grownBy_alloc _ _ _) hg10); have hnR : some (w.heap.size + 1) ≠ (.slice U2 r.ws.length n2 : Value).ownBlock := (fun h => (by have := OWS.out.lt _ h.symm; omega)); have hnQ : some (w.heap.size + 2) ≠ (.slice U2 r.ws.length n2 : Value).ownBlock := (fun h => (by have := OWS.out.lt _ h.symm; omega)); have B10 := Lib.hid (BS'.out.grown hg11.out hnR); have Q10 := Lib.hid (QS.out.grown hg11.out hnQ); have OW10 := Lib.hid hown10; have OM10 := Lib.hid (OMS.out.kept hg11.out (own_apart2 OMS.out OWS.out (by decide))); have L10 := Lib.hid (Below.grown LS.out hg11.out LS.out.size (fun k hk => (by have := (OWS.out.lt k hk).1; omega))); have y4 := B10.out.cell resL_4; have y0 := B10.out.cell resL_0; have y22 := B10.out.cell (resL_22 h16); have g4 := B10.out.frozen 4; have g22 := B10.out.frozen 22; have hv10 := own_one hown10; have B11 : Hid (Box ((w10.setCell ⟨w.heap.size + 1, 22, none⟩ v10).setCell ⟨w.heap.size + 1, 4, none⟩ (.int .i64 (wrap64 (r.st + 1)))) (w.heap.size + 1) (resL (bumpZ { r with mem := storeZ r.mem (sizeZ op) adr mz, ws := r.ws ++ [⟨adr, sizeZ op, mz⟩] }) (.slice A8 r.mem.length c8) v10)) := (by have := (B10.out.setCell 22 v10).setCell 4 (.int .i64 (wrap64 (r.st + 1))); rw [resL_set22 (r := { r with mem := storeZ r.mem (sizeZ op) adr mz }) h16, resL_set4] at this; exact this); have Q11 := Lib.hid ((Q10.out.setCell_other (Nat.ne_of_gt (Nat.lt_succ_self _)) 22 v10).setCell_other (Nat.ne_of_gt (Nat.lt_succ_self _)) 4 (.int .i64 (wrap64 (r.st + 1)))); have N16 := Lib.hid (show (bumpZ { r with mem := storeZ r.mem (sizeZ op) adr mz, ws := r.ws ++ [⟨adr, sizeZ op, mz⟩] }).regs.length = 16 from h16); obtain ⟨A10, c10, rfl⟩ := (Row.of_own OW10.out).form)
          | (refine wpList_load_box rfl 32 (.tmp 4) rfl (w.heap.size + 1) 0 rfl (resL (bumpZ { r with mem := storeZ r.mem (sizeZ op) adr mz, ws := r.ws ++ [⟨adr, sizeZ op, mz⟩] }) (.slice A8 r.mem.length c8) (.slice A10 (r.ws.length + 1) c10)) (resL (bumpZ { r with mem := storeZ r.mem (sizeZ op) adr mz, ws := r.ws ++ [⟨adr, sizeZ op, mz⟩] }) (.slice A8 r.mem.length c8) (.slice A10 (r.ws.length + 1) c10)) B11.out (fun j v hv => by rw [Nat.zero_add]; exact hv) _ Try.underlying32 rfl 23 info_res (resL_len N16.out) ?_)
          | (refine wpList_store_box rfl 32 (.tmp 6) (.tmp 186) rfl (w.heap.size + 2) 0 (resL (bumpZ { r with mem := storeZ r.mem (sizeZ op) adr mz, ws := r.ws ++ [⟨adr, sizeZ op, mz⟩] }) (.slice A8 r.mem.length c8) (.slice A10 (r.ws.length + 1) c10)) rfl rfl (resL noRes (.slice none 0 0) (.slice none 0 0)) Q11.out (by rw [resL_len N16.out, resL_len rfl]; exact Nat.le_refl _) 23 info_res (resL_len N16.out) (resL_one rfl rfl) ?_; intro w9 B9 hg9; rw [splice_whole _ _ (by rw [resL_len N16.out, resL_len rfl])] at B9))
        refine bodyPost_ret (v := .tuple #[.agg (resL (bumpZ { r with mem := storeZ r.mem (sizeZ op) adr mz, ws := r.ws ++ [⟨adr, sizeZ op, mz⟩] }) (.slice A8 r.mem.length c8) (.slice A10 (r.ws.length + 1) c10)).toArray, .int .i64 ((k : Int) + 1)]) ?_ rfl ⟨_, _, rfl, ?_, ?_⟩
        · exact results_cell_tmp' Try.results15 _ _ _ ⟨w.heap.size + 2, 0, none⟩ _ _ rfl (load_res B9 N16.out) rfl
        · have m1 := own_grown (ownsRow_setCell_below (ownsRow_setCell_below OM10.out (a := ⟨w.heap.size + 1, 22, none⟩) (show w.heap.size + 1 < w7.heap.size by omega) (.slice A10 (r.ws.length + 1) c10)) (a := ⟨w.heap.size + 1, 4, none⟩) (show w.heap.size + 1 < w7.heap.size by omega) (.int .i64 (wrap64 (r.st + 1)))) hg9 (fun g hg h => by have := (OM10.out.lt g hg).1; injection h with h; omega)
          have m2' := own_grown (ownsRow_setCell_below (ownsRow_setCell_below OW10.out (a := ⟨w.heap.size + 1, 22, none⟩) (show w.heap.size + 1 < w.heap.size + 3 by omega) (.slice A10 (r.ws.length + 1) c10)) (a := ⟨w.heap.size + 1, 4, none⟩) (show w.heap.size + 1 < w.heap.size + 3 by omega) (.int .i64 (wrap64 (r.st + 1)))) hg9 (fun g hg h => by have := (OW10.out.lt g hg).1; injection h with h; omega)
          refine ⟨?_, ?_, h16⟩
          · show World.ownsRow _ _ _ _ _ (storeZ _ _ _ _).length _
            rw [storeZ_len]
            exact own_base m1 (by omega)
          · show World.ownsRow _ _ _ _ _ (r.ws ++ [(⟨adr, sizeZ op, mz⟩ : Wr)]).length (wsL (r.ws ++ [(⟨adr, sizeZ op, mz⟩ : Wr)]))
            rw [show (r.ws ++ [(⟨adr, sizeZ op, mz⟩ : Wr)]).length = r.ws.length + 1 by simp, wsL_append]
            exact own_base m2' (by omega)
        · exact Below.grown (Below.setCell (Below.setCell L10.out (Nat.le_succ _) _) (Nat.le_succ _) _) hg9 (Below.setCell (Below.setCell L10.out (Nat.le_succ _) _) (Nat.le_succ _) _).size (fun k hk => grown_ge hk (by omega))
      · go_simp
        refine hK.out _ _ hSz (fun _ => ?_)
        clear hK K hS
        have hS := hSz
        try simp only [Act.put, List.setIfInBounds_toArray, List.set_cons_zero, List.set_cons_succ]
        refine tree_call hS (by rfl) (fun K hK => ?_)
        go_simp
        refine (refMask_any vb (sizeZ op) _ vb0.1 (by omega)).mono ?_
        rintro e w7 ⟨rfl, rfl⟩
        rw [← HMZ.out]
        go_wp2_with fail
        refine hK.out _ _ hS (fun _ => ?_)
        clear hK K
        try simp only [Act.put, List.setIfInBounds_toArray, List.set_cons_zero, List.set_cons_succ]
        (refine tree_take (v := ?_) hS (by rfl) ?_ ?_; rotate_left; (intro x hx; go_simp; try (with_reducible rfl)); (simp only [Act.put, List.setIfInBounds_toArray, List.set_cons_zero, List.set_cons_succ]))
        refine tree_call hS (by rfl) (fun K hK => ?_)
        go_simp
        refine hK.out _ _ hSa (fun _ => ?_)
        clear hK K hS
        try simp only [Act.put, List.setIfInBounds_toArray, List.set_cons_zero, List.set_cons_succ]
        refine tree_done ?_
        clear hSa hSz HPS
        have k8 : Kept w2 (w6.alloc (.cells #[.int .i64 adr, .int .i64 (sizeZ op), .int .u32 mz] 45)).drew.drew := (k6.alloc _).drew.drew
        have q0w : (w6.alloc (.cells #[.int .i64 adr, .int .i64 (sizeZ op), .int .u32 mz] 45)).drew.drew.cell? ⟨w6.heap.size, 0, none⟩ = some (.int .i64 adr) := by go_simp
        have q1w : (w6.alloc (.cells #[.int .i64 adr, .int .i64 (sizeZ op), .int .u32 mz] 45)).drew.drew.cell? ⟨w6.heap.size, 1, none⟩ = some (.int .i64 (sizeZ op)) := by go_simp
        have q2w : (w6.alloc (.cells #[.int .i64 adr, .int .i64 (sizeZ op), .int .u32 mz] 45)).drew.drew.cell? ⟨w6.heap.size, 2, none⟩ = some (.int .u32 mz) := by go_simp
        have hwb : w6.heap.size < (w6.alloc (.cells #[.int .i64 adr, .int .i64 (sizeZ op), .int .u32 mz] 45)).drew.drew.heap.size := by simp
        have hwr : w.heap.size + 3 ≤ w6.heap.size := by have := k6.size; omega
        clear k7 l7
        generalize (w6.alloc (.cells #[.int .i64 adr, .int .i64 (sizeZ op), .int .u32 mz] 45)).drew.drew = w7 at *
        generalize w6.heap.size = wb at *
        have z21' := (B2.out.below k8 hz2').cell (resL_21 h16)
        have BB8 := Lib.hid (B2.out.below k8 hz2')
        have QQ8 := Lib.hid (Q2.out.below k8 hz2'')
        have OO8 := Lib.hid (show ResOwn w7 (w.heap.size + 3) _ _ r from ⟨own_below O2.out.mem k8, own_below O2.out.ws k8, h16⟩)
        have L7 := Lib.hid (b2'.out.trans (k8.mono (Nat.le_of_lt hz2)))
        go_wp2_with fail
        refine (refStore_any M2 m2 r.mem.length r.mem mz w7 (sizeZ op) adr (Row.of_own OO8.out.mem) (by have := H2.out; omega) HSB.out (by omega) HMZ0.out).mono ?_
        rintro e w8 ⟨v8, rfl, hown8, hb8⟩
        obtain ⟨A8, c8, rfl⟩ := (Row.of_own hown8).form
        have q0w := below_cell hb8 hwb q0w
        have q1w := below_cell hb8 hwb q1w
        have q2w := below_cell hb8 hwb q2w
        have hrl : w.heap.size + 1 < w7.heap.size := BB8.out.lt
        have BB9 := Lib.hid (BB8.out.below hb8 hrl)
        have QQ9 := Lib.hid (QQ8.out.below hb8 QQ8.out.lt)
        have OW9 := Lib.hid (own_below OO8.out.ws hb8)
        have OM9 := Lib.hid hown8
        have L8 := Lib.hid (L7.out.trans (hb8.mono L7.out.size))
        have hw78 : w7.heap.size ≤ w8.heap.size := hb8.size
        have f21 := BB9.out.frozen 21
        have z21 := BB9.out.cell (resL_21 h16)
        have z22 := BB9.out.cell (resL_22 h16)
        have f22 := BB9.out.frozen 22
        clear hown8 hb8 z21'
        have hwbR : wb ≠ w.heap.size + 1 := by omega
        obtain ⟨i0w, hiw, hzw0, hzw1, hzw2⟩ := info_parts info_wr
        have BS := Lib.hid (BB9.out.setCell 21 (.slice A8 r.mem.length c8))
        have BS' : Hid (Box (w8.setCell ⟨w.heap.size + 1, 21, none⟩ (.slice A8 r.mem.length c8)) (w.heap.size + 1) (resL { r with mem := storeZ r.mem (sizeZ op) adr mz } (.slice A8 r.mem.length c8) (.slice U2 r.ws.length n2))) := by
          have := BS.out
          rwa [resL_set21 h16] at this
        have QS := Lib.hid (QQ9.out.setCell_other (Nat.ne_of_gt (Nat.lt_succ_self _)) 21 (.slice A8 r.mem.length c8))
        have OWS := Lib.hid (ownsRow_setCell_below OW9.out (a := ⟨w.heap.size + 1, 21, none⟩) (show w.heap.size + 1 < w.heap.size + 3 by omega) (.slice A8 r.mem.length c8))
        have OMS := Lib.hid (ownsRow_setCell_below OM9.out (a := ⟨w.heap.size + 1, 21, none⟩) (show w.heap.size + 1 < w7.heap.size by omega) (.slice A8 r.mem.length c8))
        have LS := Lib.hid (show Below w.heap.size w (w8.setCell ⟨w.heap.size + 1, 21, none⟩ (.slice A8 r.mem.length c8)) from Below.setCell L8.out (Nat.le_succ _) _)
        have hsz8 : (w8.setCell ⟨w.heap.size + 1, 21, none⟩ (.slice A8 r.mem.length c8)).heap.size = w8.heap.size := by simp [World.setCell]
        go_wp2_with (first
          | (at_builtin; refine wpList_append_row _ rfl (.tmp 153) (.tmp 155) 30 rfl (w.heap.size + 3) 45 i0w (.agg #[.int .i64 0, .int .i64 0, .int .u32 0]) 3 24 Try.underlying30 hiw hzw0 hzw1 hzw2 rfl (by omega) (.slice U2 r.ws.length n2) r.ws.length (wsL r.ws) rfl (OWS.out.alloc _) ((w8.setCell ⟨w.heap.size + 1, 21, none⟩ (.slice A8 r.mem.length c8)).heap.size + 1) (.slice (some ⟨(w8.setCell ⟨w.heap.size + 1, 21, none⟩ (.slice A8 r.mem.length c8)).heap.size, 0, none⟩) 1 1) 1 [.int .i64 adr, .int .i64 (sizeZ op), .int .u32 mz] (by rw [hsz8]; rfl) (row_one3 _ _ _ _ _) (by simp [Value.oneCell']) (by have := HWL.out; unfold maxLen; omega) (by have := HWL.out; omega) (by simp [World.setCell]; omega) ?_; intro v10 w10 hown10 hg10; have hg11 := Lib.hid (grown_trans (World.grownBy_alloc _ _ _) hg10); have hnR : some (w.heap.size + 1) ≠ (.slice U2 r.ws.length n2 : Value).ownBlock := (fun h => (by have := OWS.out.lt _ h.symm; omega)); have hnQ : some (w.heap.size + 2) ≠ (.slice U2 r.ws.length n2 : Value).ownBlock := (fun h => (by have := OWS.out.lt _ h.symm; omega)); have B10 := Lib.hid (BS'.out.grown hg11.out hnR); have Q10 := Lib.hid (QS.out.grown hg11.out hnQ); have OW10 := Lib.hid hown10; have OM10 := Lib.hid (OMS.out.kept hg11.out (own_apart2 OMS.out OWS.out (by decide))); have L10 := Lib.hid (Below.grown LS.out hg11.out LS.out.size (fun k hk => (by have := (OWS.out.lt k hk).1; omega))); have y4 := B10.out.cell resL_4; have y0 := B10.out.cell resL_0; have y22 := B10.out.cell (resL_22 h16); have g4 := B10.out.frozen 4; have g22 := B10.out.frozen 22; have hv10 := own_one hown10; have B11 : Hid (Box ((w10.setCell ⟨w.heap.size + 1, 22, none⟩ v10).setCell ⟨w.heap.size + 1, 4, none⟩ (.int .i64 (wrap64 (r.st + 1)))) (w.heap.size + 1) (resL (bumpZ { r with mem := storeZ r.mem (sizeZ op) adr mz, ws := r.ws ++ [⟨adr, sizeZ op, mz⟩] }) (.slice A8 r.mem.length c8) v10)) := (by have := (B10.out.setCell 22 v10).setCell 4 (.int .i64 (wrap64 (r.st + 1))); rw [resL_set22 (r := { r with mem := storeZ r.mem (sizeZ op) adr mz }) h16, resL_set4] at this; exact this); have Q11 := Lib.hid ((Q10.out.setCell_other (Nat.ne_of_gt (Nat.lt_succ_self _)) 22 v10).setCell_other (Nat.ne_of_gt (Nat.lt_succ_self _)) 4 (.int .i64 (wrap64 (r.st + 1)))); have N16 := Lib.hid (show (bumpZ { r with mem := storeZ r.mem (sizeZ op) adr mz, ws := r.ws ++ [⟨adr, sizeZ op, mz⟩] }).regs.length = 16 from h16); obtain ⟨A10, c10, rfl⟩ := (Row.of_own OW10.out).form)
          | (refine wpList_load_box rfl 32 (.tmp 4) rfl (w.heap.size + 1) 0 rfl (resL (bumpZ { r with mem := storeZ r.mem (sizeZ op) adr mz, ws := r.ws ++ [⟨adr, sizeZ op, mz⟩] }) (.slice A8 r.mem.length c8) (.slice A10 (r.ws.length + 1) c10)) (resL (bumpZ { r with mem := storeZ r.mem (sizeZ op) adr mz, ws := r.ws ++ [⟨adr, sizeZ op, mz⟩] }) (.slice A8 r.mem.length c8) (.slice A10 (r.ws.length + 1) c10)) B11.out (fun j v hv => by rw [Nat.zero_add]; exact hv) _ Try.underlying32 rfl 23 info_res (resL_len N16.out) ?_)
          | (refine wpList_store_box rfl 32 (.tmp 6) (.tmp 186) rfl (w.heap.size + 2) 0 (resL (bumpZ { r with mem := storeZ r.mem (sizeZ op) adr mz, ws := r.ws ++ [⟨adr, sizeZ op, mz⟩] }) (.slice A8 r.mem.length c8) (.slice A10 (r.ws.length + 1) c10)) rfl rfl (resL noRes (.slice none 0 0) (.slice none 0 0)) Q11.out (by rw [resL_len N16.out, resL_len rfl]; exact Nat.le_refl _) 23 info_res (resL_len N16.out) (resL_one rfl rfl) ?_; intro w9 B9 hg9; rw [splice_whole _ _ (by rw [resL_len N16.out, resL_len rfl])] at B9))
        refine bodyPost_ret (v := .tuple #[.agg (resL (bumpZ { r with mem := storeZ r.mem (sizeZ op) adr mz, ws := r.ws ++ [⟨adr, sizeZ op, mz⟩] }) (.slice A8 r.mem.length c8) (.slice A10 (r.ws.length + 1) c10)).toArray, .int .i64 ((k : Int) + 1)]) ?_ rfl ⟨_, _, rfl, ?_, ?_⟩
        · exact results_cell_tmp' Try.results15 _ _ _ ⟨w.heap.size + 2, 0, none⟩ _ _ rfl (load_res B9 N16.out) rfl
        · have m1 := own_grown (ownsRow_setCell_below (ownsRow_setCell_below OM10.out (a := ⟨w.heap.size + 1, 22, none⟩) (show w.heap.size + 1 < w7.heap.size by omega) (.slice A10 (r.ws.length + 1) c10)) (a := ⟨w.heap.size + 1, 4, none⟩) (show w.heap.size + 1 < w7.heap.size by omega) (.int .i64 (wrap64 (r.st + 1)))) hg9 (fun g hg h => by have := (OM10.out.lt g hg).1; injection h with h; omega)
          have m2' := own_grown (ownsRow_setCell_below (ownsRow_setCell_below OW10.out (a := ⟨w.heap.size + 1, 22, none⟩) (show w.heap.size + 1 < w.heap.size + 3 by omega) (.slice A10 (r.ws.length + 1) c10)) (a := ⟨w.heap.size + 1, 4, none⟩) (show w.heap.size + 1 < w.heap.size + 3 by omega) (.int .i64 (wrap64 (r.st + 1)))) hg9 (fun g hg h => by have := (OW10.out.lt g hg).1; injection h with h; omega)
          refine ⟨?_, ?_, h16⟩
          · show World.ownsRow _ _ _ _ _ (storeZ _ _ _ _).length _
            rw [storeZ_len]
            exact own_base m1 (by omega)
          · show World.ownsRow _ _ _ _ _ (r.ws ++ [(⟨adr, sizeZ op, mz⟩ : Wr)]).length (wsL (r.ws ++ [(⟨adr, sizeZ op, mz⟩ : Wr)]))
            rw [show (r.ws ++ [(⟨adr, sizeZ op, mz⟩ : Wr)]).length = r.ws.length + 1 by simp, wsL_append]
            exact own_base m2' (by omega)
        · exact Below.grown (Below.setCell (Below.setCell L10.out (Nat.le_succ _) _) (Nat.le_succ _) _) hg9 (Below.setCell (Below.setCell L10.out (Nat.le_succ _) _) (Nat.le_succ _) _).size (fun k hk => grown_ge hk (by omega))
    · go_simp
      refine hK.out _ _ hSz (fun _ => ?_)
      clear hK K hS
      have hS := hSz
      try simp only [Act.put, List.setIfInBounds_toArray, List.set_cons_zero, List.set_cons_succ]
      refine tree_call hS (by rfl) (fun K hK => ?_)
      go_simp
      refine (refSize_any op _).mono ?_
      rintro e w7 ⟨rfl, rfl⟩
      go_wp2_with fail
      refine hK.out _ _ hS (fun _ => ?_)
      clear hK K
      try simp only [Act.put, List.setIfInBounds_toArray, List.set_cons_zero, List.set_cons_succ]
      refine tree_call hS (by rfl) (fun K hK => ?_)
      go_simp
      refine (refMask_any vb (sizeZ op) _ vb0.1 (by omega)).mono ?_
      rintro e w7 ⟨rfl, rfl⟩
      rw [← HMZ.out]
      go_wp2_with fail
      refine hK.out _ _ hS (fun _ => ?_)
      clear hK K
      try simp only [Act.put, List.setIfInBounds_toArray, List.set_cons_zero, List.set_cons_succ]
      (refine tree_take (v := ?_) hS (by rfl) ?_ ?_; rotate_left; (intro x hx; go_simp; try (with_reducible rfl)); (simp only [Act.put, List.setIfInBounds_toArray, List.set_cons_zero, List.set_cons_succ]))
      refine tree_call hS (by rfl) (fun K hK => ?_)
      go_simp
      refine hK.out _ _ hSa (fun _ => ?_)
      clear hK K hS
      try simp only [Act.put, List.setIfInBounds_toArray, List.set_cons_zero, List.set_cons_succ]
      refine tree_done ?_
      clear hSa hSz HPS
      have k8 : Kept w2 (w6.alloc (.cells #[.int .i64 adr, .int .i64 (sizeZ op), .int .u32 mz] 45)).drew.drew := (k6.alloc _).drew.drew
      have q0w : (w6.alloc (.cells #[.int .i64 adr, .int .i64 (sizeZ op), .int .u32 mz] 45)).drew.drew.cell? ⟨w6.heap.size, 0, none⟩ = some (.int .i64 adr) := by go_simp
      have q1w : (w6.alloc (.cells #[.int .i64 adr, .int .i64 (sizeZ op), .int .u32 mz] 45)).drew.drew.cell? ⟨w6.heap.size, 1, none⟩ = some (.int .i64 (sizeZ op)) := by go_simp
      have q2w : (w6.alloc (.cells #[.int .i64 adr, .int .i64 (sizeZ op), .int .u32 mz] 45)).drew.drew.cell? ⟨w6.heap.size, 2, none⟩ = some (.int .u32 mz) := by go_simp
      have hwb : w6.heap.size < (w6.alloc (.cells #[.int .i64 adr, .int .i64 (sizeZ op), .int .u32 mz] 45)).drew.drew.heap.size := by simp
      have hwr : w.heap.size + 3 ≤ w6.heap.size := by have := k6.size; omega
      clear k7 l7
      generalize (w6.alloc (.cells #[.int .i64 adr, .int .i64 (sizeZ op), .int .u32 mz] 45)).drew.drew = w7 at *
      generalize w6.heap.size = wb at *
      have z21' := (B2.out.below k8 hz2').cell (resL_21 h16)
      have BB8 := Lib.hid (B2.out.below k8 hz2')
      have QQ8 := Lib.hid (Q2.out.below k8 hz2'')
      have OO8 := Lib.hid (show ResOwn w7 (w.heap.size + 3) _ _ r from ⟨own_below O2.out.mem k8, own_below O2.out.ws k8, h16⟩)
      have L7 := Lib.hid (b2'.out.trans (k8.mono (Nat.le_of_lt hz2)))
      go_wp2_with fail
      refine (refStore_any M2 m2 r.mem.length r.mem mz w7 (sizeZ op) adr (Row.of_own OO8.out.mem) (by have := H2.out; omega) HSB.out (by omega) HMZ0.out).mono ?_
      rintro e w8 ⟨v8, rfl, hown8, hb8⟩
      obtain ⟨A8, c8, rfl⟩ := (Row.of_own hown8).form
      have q0w := below_cell hb8 hwb q0w
      have q1w := below_cell hb8 hwb q1w
      have q2w := below_cell hb8 hwb q2w
      have hrl : w.heap.size + 1 < w7.heap.size := BB8.out.lt
      have BB9 := Lib.hid (BB8.out.below hb8 hrl)
      have QQ9 := Lib.hid (QQ8.out.below hb8 QQ8.out.lt)
      have OW9 := Lib.hid (own_below OO8.out.ws hb8)
      have OM9 := Lib.hid hown8
      have L8 := Lib.hid (L7.out.trans (hb8.mono L7.out.size))
      have hw78 : w7.heap.size ≤ w8.heap.size := hb8.size
      have f21 := BB9.out.frozen 21
      have z21 := BB9.out.cell (resL_21 h16)
      have z22 := BB9.out.cell (resL_22 h16)
      have f22 := BB9.out.frozen 22
      clear hown8 hb8 z21'
      have hwbR : wb ≠ w.heap.size + 1 := by omega
      obtain ⟨i0w, hiw, hzw0, hzw1, hzw2⟩ := info_parts info_wr
      have BS := Lib.hid (BB9.out.setCell 21 (.slice A8 r.mem.length c8))
      have BS' : Hid (Box (w8.setCell ⟨w.heap.size + 1, 21, none⟩ (.slice A8 r.mem.length c8)) (w.heap.size + 1) (resL { r with mem := storeZ r.mem (sizeZ op) adr mz } (.slice A8 r.mem.length c8) (.slice U2 r.ws.length n2))) := by
        have := BS.out
        rwa [resL_set21 h16] at this
      have QS := Lib.hid (QQ9.out.setCell_other (Nat.ne_of_gt (Nat.lt_succ_self _)) 21 (.slice A8 r.mem.length c8))
      have OWS := Lib.hid (ownsRow_setCell_below OW9.out (a := ⟨w.heap.size + 1, 21, none⟩) (show w.heap.size + 1 < w.heap.size + 3 by omega) (.slice A8 r.mem.length c8))
      have OMS := Lib.hid (ownsRow_setCell_below OM9.out (a := ⟨w.heap.size + 1, 21, none⟩) (show w.heap.size + 1 < w7.heap.size by omega) (.slice A8 r.mem.length c8))
      have LS := Lib.hid (show Below w.heap.size w (w8.setCell ⟨w.heap.size + 1, 21, none⟩ (.slice A8 r.mem.length c8)) from Below.setCell L8.out (Nat.le_succ _) _)
      have hsz8 : (w8.setCell ⟨w.heap.size + 1, 21, none⟩ (.slice A8 r.mem.length c8)).heap.size = w8.heap.size := by simp [World.setCell]
      go_wp2_with (first
        | (at_builtin; refine wpList_append_row _ rfl (.tmp 153) (.tmp 155) 30 rfl (w.heap.size + 3) 45 i0w (.agg #[.int .i64 0, .int .i64 0, .int .u32 0]) 3 24 Try.underlying30 hiw hzw0 hzw1 hzw2 rfl (by omega) (.slice U2 r.ws.length n2) r.ws.length (wsL r.ws) rfl (OWS.out.alloc _) ((w8.setCell ⟨w.heap.size + 1, 21, none⟩ (.slice A8 r.mem.length c8)).heap.size + 1) (.slice (some ⟨(w8.setCell ⟨w.heap.size + 1, 21, none⟩ (.slice A8 r.mem.length c8)).heap.size, 0, none⟩) 1 1) 1 [.int .i64 adr, .int .i64 (sizeZ op), .int .u32 mz] (by rw [hsz8]; rfl) (row_one3 _ _ _ _ _) (by simp [Value.oneCell']) (by have := HWL.out; unfold maxLen; omega) (by have := HWL.out; omega) (by simp [World.setCell]; omega) ?_; intro v10 w10 hown10 hg10; have hg11 := Lib.hid (grown_trans (World.grownBy_alloc _ _ _) hg10); have hnR : some (w.heap.size + 1) ≠ (.slice U2 r.ws.length n2 : Value).ownBlock := (fun h => (by have := OWS.out.lt _ h.symm; omega)); have hnQ : some (w.heap.size + 2) ≠ (.slice U2 r.ws.length n2 : Value).ownBlock := (fun h => (by have := OWS.out.lt _ h.symm; omega)); have B10 := Lib.hid (BS'.out.grown hg11.out hnR); have Q10 := Lib.hid (QS.out.grown hg11.out hnQ); have OW10 := Lib.hid hown10; have OM10 := Lib.hid (OMS.out.kept hg11.out (own_apart2 OMS.out OWS.out (by decide))); have L10 := Lib.hid (Below.grown LS.out hg11.out LS.out.size (fun k hk => (by have := (OWS.out.lt k hk).1; omega))); have y4 := B10.out.cell resL_4; have y0 := B10.out.cell resL_0; have y22 := B10.out.cell (resL_22 h16); have g4 := B10.out.frozen 4; have g22 := B10.out.frozen 22; have hv10 := own_one hown10; have B11 : Hid (Box ((w10.setCell ⟨w.heap.size + 1, 22, none⟩ v10).setCell ⟨w.heap.size + 1, 4, none⟩ (.int .i64 (wrap64 (r.st + 1)))) (w.heap.size + 1) (resL (bumpZ { r with mem := storeZ r.mem (sizeZ op) adr mz, ws := r.ws ++ [⟨adr, sizeZ op, mz⟩] }) (.slice A8 r.mem.length c8) v10)) := (by have := (B10.out.setCell 22 v10).setCell 4 (.int .i64 (wrap64 (r.st + 1))); rw [resL_set22 (r := { r with mem := storeZ r.mem (sizeZ op) adr mz }) h16, resL_set4] at this; exact this); have Q11 := Lib.hid ((Q10.out.setCell_other (Nat.ne_of_gt (Nat.lt_succ_self _)) 22 v10).setCell_other (Nat.ne_of_gt (Nat.lt_succ_self _)) 4 (.int .i64 (wrap64 (r.st + 1)))); have N16 := Lib.hid (show (bumpZ { r with mem := storeZ r.mem (sizeZ op) adr mz, ws := r.ws ++ [⟨adr, sizeZ op, mz⟩] }).regs.length = 16 from h16); obtain ⟨A10, c10, rfl⟩ := (Row.of_own OW10.out).form)
        | (refine wpList_load_box rfl 32 (.tmp 4) rfl (w.heap.size + 1) 0 rfl (resL (bumpZ { r with mem := storeZ r.mem (sizeZ op) adr mz, ws := r.ws ++ [⟨adr, sizeZ op, mz⟩] }) (.slice A8 r.mem.length c8) (.slice A10 (r.ws.length + 1) c10)) (resL (bumpZ { r with mem := storeZ r.mem (sizeZ op) adr mz, ws := r.ws ++ [⟨adr, sizeZ op, mz⟩] }) (.slice A8 r.mem.length c8) (.slice A10 (r.ws.length + 1) c10)) B11.out (fun j v hv => by rw [Nat.zero_add]; exact hv) _ Try.underlying32 rfl 23 info_res (resL_len N16.out) ?_)
        | (refine wpList_store_box rfl 32 (.tmp 6) (.tmp 186) rfl (w.heap.size + 2) 0 (resL (bumpZ { r with mem := storeZ r.mem (sizeZ op) adr mz, ws := r.ws ++ [⟨adr, sizeZ op, mz⟩] }) (.slice A8 r.mem.length c8) (.slice A10 (r.ws.length + 1) c10)) rfl rfl (resL noRes (.slice none 0 0) (.slice none 0 0)) Q11.out (by rw [resL_len N16.out, resL_len rfl]; exact Nat.le_refl _) 23 info_res (resL_len N16.out) (resL_one rfl rfl) ?_; intro w9 B9 hg9; rw [splice_whole _ _ (by rw [resL_len N16.out, resL_len rfl])] at B9))
      refine bodyPost_ret (v := .tuple #[.agg (resL (bumpZ { r with mem := storeZ r.mem (sizeZ op) adr mz, ws := r.ws ++ [⟨adr, sizeZ op, mz⟩] }) (.slice A8 r.mem.length c8) (.slice A10 (r.ws.length + 1) c10)).toArray, .int .i64 ((k : Int) + 1)]) ?_ rfl ⟨_, _, rfl, ?_, ?_⟩
      · exact results_cell_tmp' Try.results15 _ _ _ ⟨w.heap.size + 2, 0, none⟩ _ _ rfl (load_res B9 N16.out) rfl
      · have m1 := own_grown (ownsRow_setCell_below (ownsRow_setCell_below OM10.out (a := ⟨w.heap.size + 1, 22, none⟩) (show w.heap.size + 1 < w7.heap.size by omega) (.slice A10 (r.ws.length + 1) c10)) (a := ⟨w.heap.size + 1, 4, none⟩) (show w.heap.size + 1 < w7.heap.size by omega) (.int .i64 (wrap64 (r.st + 1)))) hg9 (fun g hg h => by have := (OM10.out.lt g hg).1; injection h with h; omega)
        have m2' := own_grown (ownsRow_setCell_below (ownsRow_setCell_below OW10.out (a := ⟨w.heap.size + 1, 22, none⟩) (show w.heap.size + 1 < w.heap.size + 3 by omega) (.slice A10 (r.ws.length + 1) c10)) (a := ⟨w.heap.size + 1, 4, none⟩) (show w.heap.size + 1 < w.heap.size + 3 by omega) (.int .i64 (wrap64 (r.st + 1)))) hg9 (fun g hg h => by have := (OW10.out.lt g hg).1; injection h with h; omega)
        refine ⟨?_, ?_, h16⟩
        · show World.ownsRow _ _ _ _ _ (storeZ _ _ _ _).length _
          rw [storeZ_len]
          exact own_base m1 (by omega)
        · show World.ownsRow _ _ _ _ _ (r.ws ++ [(⟨adr, sizeZ op, mz⟩ : Wr)]).length (wsL (r.ws ++ [(⟨adr, sizeZ op, mz⟩ : Wr)]))
          rw [show (r.ws ++ [(⟨adr, sizeZ op, mz⟩ : Wr)]).length = r.ws.length + 1 by simp, wsL_append]
          exact own_base m2' (by omega)
      · exact Below.grown (Below.setCell (Below.setCell L10.out (Nat.le_succ _) _) (Nat.le_succ _) _) hg9 (Below.setCell (Below.setCell L10.out (Nat.le_succ _) _) (Nat.le_succ _) _).size (fun k hk => grown_ge hk (by omega))
  · go_simp
    refine hK.out _ _ hSz (fun _ => ?_)
    clear hK K hS
    have hS := hSz
    try simp only [Act.put, List.setIfInBounds_toArray, List.set_cons_zero, List.set_cons_succ]
    refine tree_call hS (by rfl) (fun K hK => ?_)
    go_simp
    refine (refSize_any op _).mono ?_
    rintro e w7 ⟨rfl, rfl⟩
    go_wp2_with fail
    refine hK.out _ _ hS (fun _ => ?_)
    clear hK K
    try simp only [Act.put, List.setIfInBounds_toArray, List.set_cons_zero, List.set_cons_succ]
    refine tree_call hS (by rfl) (fun K hK => ?_)
    go_simp
    refine (refSize_any op _).mono ?_
    rintro e w7 ⟨rfl, rfl⟩
    go_wp2_with fail
    refine hK.out _ _ hS (fun _ => ?_)
    clear hK K
    try simp only [Act.put, List.setIfInBounds_toArray, List.set_cons_zero, List.set_cons_succ]
    refine tree_call hS (by rfl) (fun K hK => ?_)
    go_simp
    refine (refMask_any vb (sizeZ op) _ vb0.1 (by omega)).mono ?_
    rintro e w7 ⟨rfl, rfl⟩
    rw [← HMZ.out]
    go_wp2_with fail
    refine hK.out _ _ hS (fun _ => ?_)
    clear hK K
    try simp only [Act.put, List.setIfInBounds_toArray, List.set_cons_zero, List.set_cons_succ]
    (refine tree_take (v := ?_) hS (by rfl) ?_ ?_; rotate_left; (intro x hx; go_simp; try (with_reducible rfl)); (simp only [Act.put, List.setIfInBounds_toArray, List.set_cons_zero, List.set_cons_succ]))
    refine tree_call hS (by rfl) (fun K hK => ?_)
    go_simp
    refine hK.out _ _ hSa (fun _ => ?_)
    clear hK K hS
    try simp only [Act.put, List.setIfInBounds_toArray, List.set_cons_zero, List.set_cons_succ]
    refine tree_done ?_
    clear hSa hSz HPS
    have k8 : Kept w2 (w6.alloc (.cells #[.int .i64 adr, .int .i64 (sizeZ op), .int .u32 mz] 45)).drew.drew := (k6.alloc _).drew.drew
    have q0w : (w6.alloc (.cells #[.int .i64 adr, .int .i64 (sizeZ op), .int .u32 mz] 45)).drew.drew.cell? ⟨w6.heap.size, 0, none⟩ = some (.int .i64 adr) := by go_simp
    have q1w : (w6.alloc (.cells #[.int .i64 adr, .int .i64 (sizeZ op), .int .u32 mz] 45)).drew.drew.cell? ⟨w6.heap.size, 1, none⟩ = some (.int .i64 (sizeZ op)) := by go_simp
    have q2w : (w6.alloc (.cells #[.int .i64 adr, .int .i64 (sizeZ op), .int .u32 mz] 45)).drew.drew.cell? ⟨w6.heap.size, 2, none⟩ = some (.int .u32 mz) := by go_simp
    have hwb : w6.heap.size < (w6.alloc (.cells #[.int .i64 adr, .int .i64 (sizeZ op), .int .u32 mz] 45)).drew.drew.heap.size := by simp
    have hwr : w.heap.size + 3 ≤ w6.heap.size := by have := k6.size; omega
    clear k7 l7
    generalize (w6.alloc (.cells #[.int .i64 adr, .int .i64 (sizeZ op), .int .u32 mz] 45)).drew.drew = w7 at *
    generalize w6.heap.size = wb at *
    have z21' := (B2.out.below k8 hz2').cell (resL_21 h16)
    have BB8 := Lib.hid (B2.out.below k8 hz2')
    have QQ8 := Lib.hid (Q2.out.below k8 hz2'')
    have OO8 := Lib.hid (show ResOwn w7 (w.heap.size + 3) _ _ r from ⟨own_below O2.out.mem k8, own_below O2.out.ws k8, h16⟩)
    have L7 := Lib.hid (b2'.out.trans (k8.mono (Nat.le_of_lt hz2)))
    go_wp2_with fail
    refine (refStore_any M2 m2 r.mem.length r.mem mz w7 (sizeZ op) adr (Row.of_own OO8.out.mem) (by have := H2.out; omega) HSB.out (by omega) HMZ0.out).mono ?_
    rintro e w8 ⟨v8, rfl, hown8, hb8⟩
    obtain ⟨A8, c8, rfl⟩ := (Row.of_own hown8).form
    have q0w := below_cell hb8 hwb q0w
    have q1w := below_cell hb8 hwb q1w
    have q2w := below_cell hb8 hwb q2w
    have hrl : w.heap.size + 1 < w7.heap.size := BB8.out.lt
    have BB9 := Lib.hid (BB8.out.below hb8 hrl)
    have QQ9 := Lib.hid (QQ8.out.below hb8 QQ8.out.lt)
    have OW9 := Lib.hid (own_below OO8.out.ws hb8)
    have OM9 := Lib.hid hown8
    have L8 := Lib.hid (L7.out.trans (hb8.mono L7.out.size))
    have hw78 : w7.heap.size ≤ w8.heap.size := hb8.size
    have f21 := BB9.out.frozen 21
    have z21 := BB9.out.cell (resL_21 h16)
    have z22 := BB9.out.cell (resL_22 h16)
    have f22 := BB9.out.frozen 22
    clear hown8 hb8 z21'
    have hwbR : wb ≠ w.heap.size + 1 := by omega
    obtain ⟨i0w, hiw, hzw0, hzw1, hzw2⟩ := info_parts info_wr
    have BS := Lib.hid (BB9.out.setCell 21 (.slice A8 r.mem.length c8))
    have BS' : Hid (Box (w8.setCell ⟨w.heap.size + 1, 21, none⟩ (.slice A8 r.mem.length c8)) (w.heap.size + 1) (resL { r with mem := storeZ r.mem (sizeZ op) adr mz } (.slice A8 r.mem.length c8) (.slice U2 r.ws.length n2))) := by
      have := BS.out
      rwa [resL_set21 h16] at this
    have QS := Lib.hid (QQ9.out.setCell_other (Nat.ne_of_gt (Nat.lt_succ_self _)) 21 (.slice A8 r.mem.length c8))
    have OWS := Lib.hid (ownsRow_setCell_below OW9.out (a := ⟨w.heap.size + 1, 21, none⟩) (show w.heap.size + 1 < w.heap.size + 3 by omega) (.slice A8 r.mem.length c8))
    have OMS := Lib.hid (ownsRow_setCell_below OM9.out (a := ⟨w.heap.size + 1, 21, none⟩) (show w.heap.size + 1 < w7.heap.size by omega) (.slice A8 r.mem.length c8))
    have LS := Lib.hid (show Below w.heap.size w (w8.setCell ⟨w.heap.size + 1, 21, none⟩ (.slice A8 r.mem.length c8)) from Below.setCell L8.out (Nat.le_succ _) _)
    have hsz8 : (w8.setCell ⟨w.heap.size + 1, 21, none⟩ (.slice A8 r.mem.length c8)).heap.size = w8.heap.size := by simp [World.setCell]
    go_wp2_with (first
      | (at_builtin; refine wpList_append_row _ rfl (.tmp 153) (.tmp 155) 30 rfl (w.heap.size + 3) 45 i0w (.agg #[.int .i64 0, .int .i64 0, .int .u32 0]) 3 24 Try.underlying30 hiw hzw0 hzw1 hzw2 rfl (by omega) (.slice U2 r.ws.length n2) r.ws.length (wsL r.ws) rfl (OWS.out.alloc _) ((w8.setCell ⟨w.heap.size + 1, 21, none⟩ (.slice A8 r.mem.length c8)).heap.size + 1) (.slice (some ⟨(w8.setCell ⟨w.heap.size + 1, 21, none⟩ (.slice A8 r.mem.length c8)).heap.size, 0, none⟩) 1 1) 1 [.int .i64 adr, .int .i64 (sizeZ op), .int .u32 mz] (by rw [hsz8]; rfl) (row_one3 _ _ _ _ _) (by simp [Value.oneCell']) (by have := HWL.out; unfold maxLen; omega) (by have := HWL.out; omega) (by simp [World.setCell]; omega) ?_; intro v10 w10 hown10 hg10; have hg11 := Lib.hid (grown_trans (World.grownBy_alloc _ _ _) hg10); have hnR : some (w.heap.size + 1) ≠ (.slice U2 r.ws.length n2 : Value).ownBlock := (fun h => (by have := OWS.out.lt _ h.symm; omega)); have hnQ : some (w.heap.size + 2) ≠ (.slice U2 r.ws.length n2 : Value).ownBlock := (fun h => (by have := OWS.out.lt _ h.symm; omega)); have B10 := Lib.hid (BS'.out.grown hg11.out hnR); have Q10 := Lib.hid (QS.out.grown hg11.out hnQ); have OW10 := Lib.hid hown10; have OM10 := Lib.hid (OMS.out.kept hg11.out (own_apart2 OMS.out OWS.out (by decide))); have L10 := Lib.hid (Below.grown LS.out hg11.out LS.out.size (fun k hk => (by have := (OWS.out.lt k hk).1; omega))); have y4 := B10.out.cell resL_4; have y0 := B10.out.cell resL_0; have y22 := B10.out.cell (resL_22 h16); have g4 := B10.out.frozen 4; have g22 := B10.out.frozen 22; have hv10 := own_one hown10; have B11 : Hid (Box ((w10.setCell ⟨w.heap.size + 1, 22, none⟩ v10).setCell ⟨w.heap.size + 1, 4, none⟩ (.int .i64 (wrap64 (r.st + 1)))) (w.heap.size + 1) (resL (bumpZ { r with mem := storeZ r.mem (sizeZ op) adr mz, ws := r.ws ++ [⟨adr, sizeZ op, mz⟩] }) (.slice A8 r.mem.length c8) v10)) := (by have := (B10.out.setCell 22 v10).setCell 4 (.int .i64 (wrap64 (r.st + 1))); rw [resL_set22 (r := { r with mem := storeZ r.mem (sizeZ op) adr mz }) h16, resL_set4] at this; exact this); have Q11 := Lib.hid ((Q10.out.setCell_other (Nat.ne_of_gt (Nat.lt_succ_self _)) 22 v10).setCell_other (Nat.ne_of_gt (Nat.lt_succ_self _)) 4 (.int .i64 (wrap64 (r.st + 1)))); have N16 := Lib.hid (show (bumpZ { r with mem := storeZ r.mem (sizeZ op) adr mz, ws := r.ws ++ [⟨adr, sizeZ op, mz⟩] }).regs.length = 16 from h16); obtain ⟨A10, c10, rfl⟩ := (Row.of_own OW10.out).form)
      | (refine wpList_load_box rfl 32 (.tmp 4) rfl (w.heap.size + 1) 0 rfl (resL (bumpZ { r with mem := storeZ r.mem (sizeZ op) adr mz, ws := r.ws ++ [⟨adr, sizeZ op, mz⟩] }) (.slice A8 r.mem.length c8) (.slice A10 (r.ws.length + 1) c10)) (resL (bumpZ { r with mem := storeZ r.mem (sizeZ op) adr mz, ws := r.ws ++ [⟨adr, sizeZ op, mz⟩] }) (.slice A8 r.mem.length c8) (.slice A10 (r.ws.length + 1) c10)) B11.out (fun j v hv => by rw [Nat.zero_add]; exact hv) _ Try.underlying32 rfl 23 info_res (resL_len N16.out) ?_)
      | (refine wpList_store_box rfl 32 (.tmp 6) (.tmp 186) rfl (w.heap.size + 2) 0 (resL (bumpZ { r with mem := storeZ r.mem (sizeZ op) adr mz, ws := r.ws ++ [⟨adr, sizeZ op, mz⟩] }) (.slice A8 r.mem.length c8) (.slice A10 (r.ws.length + 1) c10)) rfl rfl (resL noRes (.slice none 0 0) (.slice none 0 0)) Q11.out (by rw [resL_len N16.out, resL_len rfl]; exact Nat.le_refl _) 23 info_res (resL_len N16.out) (resL_one rfl rfl) ?_; intro w9 B9 hg9; rw [splice_whole _ _ (by rw [resL_len N16.out, resL_len rfl])] at B9))
    refine bodyPost_ret (v := .tuple #[.agg (resL (bumpZ { r with mem := storeZ r.mem (sizeZ op) adr mz, ws := r.ws ++ [⟨adr, sizeZ op, mz⟩] }) (.slice A8 r.mem.length c8) (.slice A10 (r.ws.length + 1) c10)).toArray, .int .i64 ((k : Int) + 1)]) ?_ rfl ⟨_, _, rfl, ?_, ?_⟩
    · exact results_cell_tmp' Try.results15 _ _ _ ⟨w.heap.size + 2, 0, none⟩ _ _ rfl (load_res B9 N16.out) rfl
    · have m1 := own_grown (ownsRow_setCell_below (ownsRow_setCell_below OM10.out (a := ⟨w.heap.size + 1, 22, none⟩) (show w.heap.size + 1 < w7.heap.size by omega) (.slice A10 (r.ws.length + 1) c10)) (a := ⟨w.heap.size + 1, 4, none⟩) (show w.heap.size + 1 < w7.heap.size by omega) (.int .i64 (wrap64 (r.st + 1)))) hg9 (fun g hg h => by have := (OM10.out.lt g hg).1; injection h with h; omega)
      have m2' := own_grown (ownsRow_setCell_below (ownsRow_setCell_below OW10.out (a := ⟨w.heap.size + 1, 22, none⟩) (show w.heap.size + 1 < w.heap.size + 3 by omega) (.slice A10 (r.ws.length + 1) c10)) (a := ⟨w.heap.size + 1, 4, none⟩) (show w.heap.size + 1 < w.heap.size + 3 by omega) (.int .i64 (wrap64 (r.st + 1)))) hg9 (fun g hg h => by have := (OW10.out.lt g hg).1; injection h with h; omega)
      refine ⟨?_, ?_, h16⟩
      · show World.ownsRow _ _ _ _ _ (storeZ _ _ _ _).length _
        rw [storeZ_len]
        exact own_base m1 (by omega)
      · show World.ownsRow _ _ _ _ _ (r.ws ++ [(⟨adr, sizeZ op, mz⟩ : Wr)]).length (wsL (r.ws ++ [(⟨adr, sizeZ op, mz⟩ : Wr)]))
        rw [show (r.ws ++ [(⟨adr, sizeZ op, mz⟩ : Wr)]).length = r.ws.length + 1 by simp, wsL_append]
        exact own_base m2' (by omega)
    · exact Below.grown (Below.setCell (Below.setCell L10.out (Nat.le_succ _) _) (Nat.le_succ _) _) hg9 (Below.setCell (Below.setCell L10.out (Nat.le_succ _) _) (Nat.le_succ _) _).size (fun k hk => grown_ge hk (by omega))
end Go.Proofs.Ytjbobihiigeapaa.Words

/- Contract of the document's own Step, whole. -/
namespace Go.Proofs.Ytjbobihiigeapaa.Words
set_option maxRecDepth 100000
open Go.RowKit
set_option linter.unusedVariables false

theorem refStep_any (A D : Option Addr) (c d : Nat) (p : Prog) (M U : Option Addr) (m u : Nat) (r : Res) (w : World) (pc : Int) (hp : ProgV w w.heap.size (.slice A p.code.length c) (.slice D p.data.length d) p) (hr : ResV w w.heap.size (.slice M r.mem.length m) (.slice U r.ws.length u) r) (hm : r.mem.length ≤ 140737488355328) (hw : r.ws.length ≤ 1000000000000) (fr : r.Fits) :
    Calls Try.prog 15 #[.agg #[.slice A p.code.length c, .int .i64 p.size, .slice D p.data.length d], .agg (resL r (.slice M r.mem.length m) (.slice U r.ws.length u)).toArray, .int .i64 pc] w fun e w' => ∃ vm' vw', e = .returned (.tuple #[.agg (resL (stepZ p r pc).1 vm' vw').toArray, .int .i64 (stepZ p r pc).2]) ∧ ResOwn w' w.heap.size vm' vw' (stepZ p r pc).1 ∧ Below w.heap.size w w' := by
  by_cases h0 : r.e = 0
  rotate_left
  · exact refStep_end A D c d p M U m u r w pc hp hr hm hw h0
  cases h1 : p.right
  · exact refStep_wrong A D c d p M U m u r w pc hp hr hm hw h0 h1
  by_cases h2 : (r.mem.length : Int) = p.size
  rotate_left
  · exact refStep_len A D c d p M U m u r w pc hp hr hm hw h0 h1 h2
  by_cases hlow : pc < 0
  · exact refStep_low A D c d p M U m u r w pc hp hr hm hw h0 h1 h2 hlow
  by_cases hhigh : (p.code.length : Int) ≤ pc
  · exact refStep_high A D c d p M U m u r w pc hp hr hm hw h0 h1 h2 (by omega) hhigh
  obtain ⟨c1, c2, c3, c4, c5, c6⟩ := right_code h1
  obtain ⟨k, rfl⟩ : ∃ k : Nat, pc = (k : Int) := ⟨pc.toNat, by omega⟩
  have hk : k < p.code.length := by omega
  obtain ⟨i, hi⟩ : ∃ i, p.code[k]? = some i := ⟨_, List.getElem?_eq_getElem hk⟩
  have hri := c6 i (List.mem_of_getElem? hi)
  obtain ⟨id, ia, ib, he, bd, ba, bb, bi, f1, f8⟩ := right_ins hri
  obtain ⟨cb, co, rfl, _, _⟩ := hp.code.at_ (by omega)
  obtain ⟨op, d', a', b', imm⟩ := i
  simp only [Ins.mk.injEq, true_and, and_true] at he
  obtain ⟨rfl, rfl, rfl⟩ := he
  rw [stepZ_ins h0 h1 h2 hi]
  simp only at f1 f8
  have hf : formZ op = 1 ∨ formZ op = 2 ∨ formZ op = 3 ∨ formZ op = 4 ∨ formZ op = 5 ∨ formZ op = 6 ∨ formZ op = 7 ∨ formZ op = 8 := by omega
  unfold insZ
  simp only [Int.toNat_natCast]
  rcases hf with hf | hf | hf | hf | hf | hf | hf | hf
  · rw [if_neg (by rw [hf]; decide), if_pos (by rw [hf]; decide)]
    cases hd : doB ⟨op, (id : Int), (ia : Int), (ib : Int), imm⟩ (valZ r.regs ib)
    · rw [if_pos rfl]
      exact refStep_div1 cb co c d D p M U m u r w k op imm id ia ib hp hr hm hw fr h0 h1 h2 hi hri bd ba bb bi hf hd
    · rw [if_neg (by decide)]
      exact refStep_do1 cb co c d D p M U m u r w k op imm id ia ib hp hr hm hw fr h0 h1 h2 hi hri bd ba bb bi hf hd
  · rw [if_neg (by rw [hf]; decide), if_pos (by rw [hf]; decide)]
    cases hd : doB ⟨op, (id : Int), (ia : Int), (ib : Int), imm⟩ (valZ r.regs ib)
    · rw [if_pos rfl]
      exact refStep_div2 cb co c d D p M U m u r w k op imm id ia ib hp hr hm hw fr h0 h1 h2 hi hri bd ba bb bi hf hd
    · rw [if_neg (by decide)]
      exact refStep_do2 cb co c d D p M U m u r w k op imm id ia ib hp hr hm hw fr h0 h1 h2 hi hri bd ba bb bi hf hd
  · rw [if_neg (by rw [hf]; decide), if_pos (by rw [hf]; decide)]
    cases hd : doB ⟨op, (id : Int), (ia : Int), (ib : Int), imm⟩ (valZ r.regs ib)
    · rw [if_pos rfl]
      exact refStep_div3 cb co c d D p M U m u r w k op imm id ia ib hp hr hm hw fr h0 h1 h2 hi hri bd ba bb bi hf hd
    · rw [if_neg (by decide)]
      exact refStep_do3 cb co c d D p M U m u r w k op imm id ia ib hp hr hm hw fr h0 h1 h2 hi hri bd ba bb bi hf hd
  · rw [if_pos (.inl hf)]
    split
    · rename_i hck
      exact refStep_bad4 cb co c d D p M U m u r w k op imm id ia ib hp hr hm hw fr h0 h1 h2 hi hri bd ba bb bi hf hck
    · rename_i hck
      try rw [if_pos hf]
      exact refStep_ld cb co c d D p M U m u r w k op imm id ia ib hp hr hm hw fr h0 h1 h2 hi hri bd ba bb bi hf (by simpa using hck)
  · rw [if_pos (.inr hf)]
    split
    · rename_i hck
      exact refStep_bad5 cb co c d D p M U m u r w k op imm id ia ib hp hr hm hw fr h0 h1 h2 hi hri bd ba bb bi hf hck
    · rename_i hck
      try rw [if_neg (by rw [hf]; decide)]
      exact refStep_st cb co c d D p M U m u r w k op imm id ia ib hp hr hm hw fr h0 h1 h2 hi hri bd ba bb bi hf (by simpa using hck)
  · rw [if_neg (by rw [hf]; decide), if_neg (by rw [hf]; decide), if_pos hf]
    cases ht : takenB op (valZ r.regs ia) (valZ r.regs ib)
    · rw [if_neg (by decide)]
      exact refStep_past cb co c d D p M U m u r w k op imm id ia ib hp hr hm hw fr h0 h1 h2 hi hri bd ba bb bi hf ht
    · rw [if_pos rfl]
      exact refStep_taken cb co c d D p M U m u r w k op imm id ia ib hp hr hm hw fr h0 h1 h2 hi hri bd ba bb bi hf ht
  · rw [if_neg (by rw [hf]; decide), if_neg (by rw [hf]; decide), if_neg (by rw [hf]; decide), if_pos hf]
    exact refStep_jump cb co c d D p M U m u r w k op imm id ia ib hp hr hm hw fr h0 h1 h2 hi hri bd ba bb bi hf
  · rw [if_neg (by rw [hf]; decide), if_neg (by rw [hf]; decide), if_neg (by rw [hf]; decide), if_neg (by rw [hf]; decide)]
    exact refStep_halt cb co c d D p M U m u r w k op imm id ia ib hp hr hm hw fr h0 h1 h2 hi hri bd ba bb bi hf
end Go.Proofs.Ytjbobihiigeapaa.Words

/- What a run leaves are Go's ints. Nothing here speaks of one program text. -/
namespace Go.Proofs.Ytjbobihiigeapaa.Words
set_option maxRecDepth 100000
open Go.RowKit
set_option linter.unusedVariables false

/-- The other numbers of a result, and the place, step by step. -/
structure RunFits (k : Nat) (x : Res × Int) : Prop where
  e : 0 ≤ x.1.e ∧ x.1.e ≤ 3
  tk : 0 ≤ x.1.tk ∧ x.1.tk ≤ 4
  ts : 0 ≤ x.1.ts ∧ x.1.ts ≤ k
  tp : -10000 * (k : Int) ≤ x.1.tp ∧ x.1.tp ≤ 10000 * k
  pc : -10000 * (k : Int) ≤ x.2 ∧ x.2 ≤ 10000 * k
theorem RunFits.more {k : Nat} {x : Res × Int} (h : RunFits k x) : RunFits (k + 1) x := by
  have h1 := h.ts
  have h2 := h.tp
  have h3 := h.pc
  exact ⟨h.e, h.tk, by omega, by omega, by omega⟩
theorem RunFits.trap {k : Nat} {r : Res} {pc a : Int} (h : RunFits k (r, pc)) (hs : 0 ≤ r.st ∧ r.st ≤ k) (ha : 0 ≤ a ∧ a ≤ 4) : RunFits (k + 1) (trapZ r a pc, pc) := by
  have h3 := h.pc
  simp only at h3
  refine ⟨by show (0 : Int) ≤ 2 ∧ (2 : Int) ≤ 3; omega, ha, ?_, ?_, ?_⟩
  · show 0 ≤ r.st ∧ r.st ≤ _; omega
  · show _ ≤ pc ∧ pc ≤ _; omega
  · show _ ≤ pc ∧ pc ≤ _; omega
theorem RunFits.go {k : Nat} {r r' : Res} {pc pc' : Int} (h : RunFits k (r, pc)) (he : r'.e = r.e ∨ r'.e = 1) (h1 : r'.tk = r.tk) (h2 : r'.ts = r.ts) (h3 : r'.tp = r.tp) (hp : pc - 8192 ≤ pc' ∧ pc' ≤ pc + 8192) : RunFits (k + 1) (bumpZ r', pc') := by
  have a0 := h.e
  have a1 := h.tk
  have a2 := h.ts
  have a3 := h.tp
  have a4 := h.pc
  simp only at a0 a1 a2 a3 a4
  refine ⟨?_, ?_, ?_, ?_, ?_⟩
  · show 0 ≤ r'.e ∧ r'.e ≤ 3; omega
  · show 0 ≤ r'.tk ∧ r'.tk ≤ 4; omega
  · show 0 ≤ r'.ts ∧ r'.ts ≤ _; omega
  · show _ ≤ r'.tp ∧ r'.tp ≤ _; omega
  · show _ ≤ pc' ∧ pc' ≤ _; omega
theorem RunFits.step {p : Prog} {k : Nat} {r : Res} {pc : Int} (hr : p.right = true) (h : RunFits k (r, pc)) (hs : 0 ≤ r.st ∧ r.st ≤ k) : RunFits (k + 1) (stepZ p r pc) := by
  obtain ⟨_, _, _, _, _, c6⟩ := right_code hr
  unfold stepZ
  split
  · exact h.more
  split
  · exact h.trap hs (by omega)
  rename_i hn
  obtain ⟨i, hi⟩ : ∃ i, p.code[pc.toNat]? = some i := ⟨_, List.getElem?_eq_getElem (by omega)⟩
  obtain ⟨id, ia, ib, he, bd, ba, bb, bi, f1, f8⟩ := right_ins (c6 i (List.mem_of_getElem? hi))
  rw [List.getD_eq_getElem?_getD, hi]
  simp only [Option.getD_some]
  unfold insZ
  split
  · split
    · rename_i hk
      exact h.trap hs (by have := checkZ_cases (sizeZ i.op) ((valZ r.regs i.a.toNat + i.imm) % 4294967296) p.size; omega)
    · split
      · exact h.go (.inl rfl) rfl rfl rfl (by omega)
      · exact h.go (.inl rfl) rfl rfl rfl (by omega)
  split
  · split
    · exact h.trap hs (by omega)
    · exact h.go (.inl rfl) rfl rfl rfl (by omega)
  split
  · refine h.go (.inl rfl) rfl rfl rfl ?_
    split <;> omega
  split
  · exact h.go (.inl rfl) rfl rfl rfl (by omega)
  · exact h.go (r' := { r with e := 1 }) (.inr rfl) rfl rfl rfl (by omega)
theorem RunFits.start (p : Prog) : RunFits 0 (startZ p) := by
  refine ⟨?_, ?_, ?_, ?_, ?_⟩ <;> (show _ ≤ (0 : Int) ∧ (0 : Int) ≤ _) <;> omega
theorem RunFits.steps {p : Prog} (hr : p.right = true) : ∀ (n : Nat) {k : Nat} {x : Res × Int}, RunFits k x → RunOk p k x.1 → k + n ≤ 1000000 → RunFits (k + n) (stepsZ p n x)
  | 0, k, x, h, _, _ => h
  | n + 1, k, x, h, ho, hk => by
    rw [show k + (n + 1) = (k + 1) + n by omega]
    exact RunFits.steps hr n (RunFits.step hr h ho.st) (ho.step (by omega) x.2) (by omega)
theorem Res.fits_of {p : Prog} {k : Nat} {x : Res × Int} (h : RunOk p k x.1) (g : RunFits k x) (hk : k ≤ 1000000) : x.1.Fits := by
  have h1 := g.e
  have h2 := g.tk
  have h3 := g.ts
  have h4 := g.tp
  have h5 := h.st
  exact ⟨by omega, by omega, by omega, by omega, by omega, h.regs, h.mem, h.fits⟩
/-- What a run leaves is what its steps leave, and out of fuel. -/
theorem runZ_at {p : Prog} {fuel : Int} {n k : Nat} (hr : p.right = true) (hc : clampZ fuel = n) (hk : k ≤ n) (he : k = n ∨ (stepsZ p k (startZ p)).1.e ≠ 0) : runZ p fuel = fuelZ (stepsZ p k (startZ p)).1 := by
  unfold runZ
  rw [if_pos hr, hc]
  rcases he with rfl | he
  · rfl
  · rw [show n = k + (n - k) by omega, stepsZ_add, stepsZ_end _ _ _ he]
end Go.Proofs.Ytjbobihiigeapaa.Words

/- Contract of the document's own Run. -/
namespace Go.Proofs.Ytjbobihiigeapaa.Words
set_option maxRecDepth 100000
open Go.RowKit
set_option linter.unusedVariables false

/-- The two rows lie in other blocks than b. -/
structure RowsApart (b : Nat) (vm vw : Value) : Prop where
  mem : vm.ownBlock ≠ some b
  ws : vw.ownBlock ≠ some b
theorem wpList_built {P : Program} {w : World} {ops : Array Oper} {rest : List Oper} {o : Oper} {a : Act} {Q : Exit → Act → World → Prop} (hg : o.guard = none) (t : TypeId) (parts : Array (Nat × Operand)) (ho : o.op = .build t parts)
    (cells : Array Value) (hb : P.built t (parts.map fun (i, x) => (i, a.eval x)).toList = some cells) (h : wpList P ops Q rest (a.put o.dst (.agg cells)) w) : wpList P ops Q (o :: rest) a w :=
  wpList_plain hg fun K hK => wp_build t parts ho (by rw [hb]; rfl) (by rw [hb]; exact hK _ _ h)
structure RoundF (p : Prog) (w3 wr : World) (B rb k : Nat) (vm vw : Value) : Prop where
  box : Box wr rb (resL (stepsZ p k (startZ p)).1 vm vw)
  own : ResOwn wr B vm vw (stepsZ p k (startZ p)).1
  bel : Below B w3 wr
  apart : RowsApart rb vm vw
theorem ResOwn.setRB {w : World} {B rb : Nat} {vm vw : Value} {r : Res} (h : ResOwn w B vm vw r) (ha : RowsApart rb vm vw) (k : Nat) (v : Value) (hb : rb < w.heap.size) : ResOwn (w.setCell ⟨rb, k, none⟩ v) B vm vw r :=
  ⟨h.mem.kept (grown_setCell w rb k v hb) (.inr ha.mem), h.ws.kept (grown_setCell w rb k v hb) (.inr ha.ws), h.regs⟩
theorem ResOwn.grownA {w w' : World} {B rb : Nat} {vm vw : Value} {r : Res} (h : ResOwn w B vm vw r) (ha : RowsApart rb vm vw) (hg : w.grownBy w' (some rb)) : ResOwn w' B vm vw r :=
  ⟨h.mem.kept hg (.inr ha.mem), h.ws.kept hg (.inr ha.ws), h.regs⟩
theorem RowsApart.of {w : World} {B rb : Nat} {vm vw : Value} {r : Res} (h : ResOwn w B vm vw r) (hb : rb < B) : RowsApart rb vm vw := ⟨fun e => by have := h.mem.lt _ e; omega, fun e => by have := h.ws.lt _ e; omega⟩
set_option maxHeartbeats 400000 in
theorem refCap_clamp (fuel : Int) (w : World) :
    Calls Try.prog 40 #[.int .i64 fuel, .int .i64 0, .int .i64 100000] w fun e w' => e = .returned (.int .i64 (clampZ fuel)) ∧ w = w' := by
  by_cases h1 : fuel < 0
  · have e : ((clampZ fuel : Nat) : Int) = 0 := by unfold clampZ; rw [if_pos h1]; rfl
    rw [e]
    go_enter Try.func40, Try.ntmps40
    go_wp2_with fail
    go_ret
    exact ⟨rfl, rfl⟩
  · by_cases h2 : 100000 < fuel
    · have e : ((clampZ fuel : Nat) : Int) = 100000 := by unfold clampZ; rw [if_neg h1, if_pos h2]; rfl
      rw [e]
      go_enter Try.func40, Try.ntmps40
      go_wp2_with fail
      go_ret
      exact ⟨rfl, rfl⟩
    · have e : ((clampZ fuel : Nat) : Int) = fuel := by unfold clampZ; rw [if_neg h1, if_neg h2]; omega
      rw [e]
      go_enter Try.func40, Try.ntmps40
      go_wp2_with fail
      go_ret
      exact ⟨rfl, rfl⟩

set_option maxHeartbeats 1000000 in
theorem refRun_wrong (A D : Option Addr) (c d : Nat) (p : Prog) (w : World) (fuel : Int) (hp : ProgV w w.heap.size (.slice A p.code.length c) (.slice D p.data.length d) p) (hd : ∀ b ∈ p.data, 0 ≤ b ∧ b ≤ 255) (hr : p.right = false) :
    Calls Try.prog 18 #[.agg #[.slice A p.code.length c, .int .i64 p.size, .slice D p.data.length d], .int .i64 fuel] w fun e w' => ∃ vm' vw', e = .returned (.agg (resL (runZ p fuel) vm' vw').toArray) ∧ ResOwn w' w.heap.size vm' vw' (runZ p fuel) ∧ Below w.heap.size w w' := by
  have HRT : Hid (p.right = false) := hr
  rw [show runZ p fuel = noRes by unfold runZ; rw [hr]; rfl]
  clear hr
  obtain ⟨u1, u2⟩ := hp.code.cap
  obtain ⟨u3, u4⟩ := hp.data.cap
  have hs : ((w.alloc (.cells #[.slice A p.code.length c, .int .i64 p.size, .slice D p.data.length d] 25)).alloc (.cells #[.int .i64 0, .int .i64 0, .int .i64 0, .int .i64 0, .int .i64 0, .int .u32 0, .int .u32 0, .int .u32 0, .int .u32 0, .int .u32 0, .int .u32 0, .int .u32 0, .int .u32 0, .int .u32 0, .int .u32 0, .int .u32 0, .int .u32 0, .int .u32 0, .int .u32 0, .int .u32 0, .int .u32 0, .slice none 0 0, .slice none 0 0] 32)).heap.size = w.heap.size + 2 := by simp
  have HB := Lib.hid (((Below.refl w.heap.size w).alloc (Nat.le_refl _) (.cells #[.slice A p.code.length c, .int .i64 p.size, .slice D p.data.length d] 25)).alloc (by simp) (.cells #[.int .i64 0, .int .i64 0, .int .i64 0, .int .i64 0, .int .i64 0, .int .u32 0, .int .u32 0, .int .u32 0, .int .u32 0, .int .u32 0, .int .u32 0, .int .u32 0, .int .u32 0, .int .u32 0, .int .u32 0, .int .u32 0, .int .u32 0, .int .u32 0, .int .u32 0, .int .u32 0, .int .u32 0, .slice none 0 0, .slice none 0 0] 32))
  have HP0 := Lib.hid (fun (x : World) (h : Below w.heap.size w x) => hp.below h)
  have e0 : ((w.alloc (.cells #[.slice A p.code.length c, .int .i64 p.size, .slice D p.data.length d] 25)).alloc (.cells #[.int .i64 0, .int .i64 0, .int .i64 0, .int .i64 0, .int .i64 0, .int .u32 0, .int .u32 0, .int .u32 0, .int .u32 0, .int .u32 0, .int .u32 0, .int .u32 0, .int .u32 0, .int .u32 0, .int .u32 0, .int .u32 0, .int .u32 0, .int .u32 0, .int .u32 0, .int .u32 0, .int .u32 0, .slice none 0 0, .slice none 0 0] 32)).cell? ⟨w.heap.size, 0, none⟩ = some (.slice A p.code.length c) := by go_simp
  have e1 : ((w.alloc (.cells #[.slice A p.code.length c, .int .i64 p.size, .slice D p.data.length d] 25)).alloc (.cells #[.int .i64 0, .int .i64 0, .int .i64 0, .int .i64 0, .int .i64 0, .int .u32 0, .int .u32 0, .int .u32 0, .int .u32 0, .int .u32 0, .int .u32 0, .int .u32 0, .int .u32 0, .int .u32 0, .int .u32 0, .int .u32 0, .int .u32 0, .int .u32 0, .int .u32 0, .int .u32 0, .int .u32 0, .slice none 0 0, .slice none 0 0] 32)).cell? ⟨w.heap.size, 1, none⟩ = some (.int .i64 p.size) := by go_simp
  have e2 : ((w.alloc (.cells #[.slice A p.code.length c, .int .i64 p.size, .slice D p.data.length d] 25)).alloc (.cells #[.int .i64 0, .int .i64 0, .int .i64 0, .int .i64 0, .int .i64 0, .int .u32 0, .int .u32 0, .int .u32 0, .int .u32 0, .int .u32 0, .int .u32 0, .int .u32 0, .int .u32 0, .int .u32 0, .int .u32 0, .int .u32 0, .int .u32 0, .int .u32 0, .int .u32 0, .int .u32 0, .int .u32 0, .slice none 0 0, .slice none 0 0] 32)).cell? ⟨w.heap.size, 2, none⟩ = some (.slice D p.data.length d) := by go_simp
  have Q0 : Hid (Box ((w.alloc (.cells #[.slice A p.code.length c, .int .i64 p.size, .slice D p.data.length d] 25)).alloc (.cells #[.int .i64 0, .int .i64 0, .int .i64 0, .int .i64 0, .int .i64 0, .int .u32 0, .int .u32 0, .int .u32 0, .int .u32 0, .int .u32 0, .int .u32 0, .int .u32 0, .int .u32 0, .int .u32 0, .int .u32 0, .int .u32 0, .int .u32 0, .int .u32 0, .int .u32 0, .int .u32 0, .int .u32 0, .slice none 0 0, .slice none 0 0] 32)) (w.heap.size + 1) (resL noRes (.slice none 0 0) (.slice none 0 0))) := by
    have := Box.new (w.alloc (.cells #[.slice A p.code.length c, .int .i64 p.size, .slice D p.data.length d] 25)) (resL noRes (.slice none 0 0) (.slice none 0 0)) 32
    have e : (w.alloc (.cells #[.slice A p.code.length c, .int .i64 p.size, .slice D p.data.length d] 25)).heap.size = w.heap.size + 1 := by simp
    rw [e] at this
    exact this
  have E0 := Lib.hid (And.intro e0 (And.intro e1 e2))
  have HD := Lib.hid hd
  clear hp hd
  go_enter Try.func18, Try.ntmps18
  go_wp2_with fail
  generalize ((w.alloc (.cells #[.slice A p.code.length c, .int .i64 p.size, .slice D p.data.length d] 25)).alloc (.cells #[.int .i64 0, .int .i64 0, .int .i64 0, .int .i64 0, .int .i64 0, .int .u32 0, .int .u32 0, .int .u32 0, .int .u32 0, .int .u32 0, .int .u32 0, .int .u32 0, .int .u32 0, .int .u32 0, .int .u32 0, .int .u32 0, .int .u32 0, .int .u32 0, .int .u32 0, .int .u32 0, .int .u32 0, .slice none 0 0, .slice none 0 0] 32)) = W0 at *
  refine (refRight_any A c p.size D p.data.length d p.code _ (((HP0.out _ HB.out).code).more HB.out.size) u3 u4).mono ?_; rintro e w1 ⟨rfl, hb1⟩
  rw [show rightZ p.code p.size p.data.length = false from HRT.out]
  have hb1' : Below (w.heap.size + 2) W0 w1 := hs ▸ hb1
  have HL1 := Lib.hid (HB.out.trans (hb1'.mono (by omega)))
  have Q1 := Lib.hid (Q0.out.below hb1' (by omega))
  have E1 : Hid (w1.cell? ⟨w.heap.size, 0, none⟩ = some (.slice A p.code.length c) ∧ w1.cell? ⟨w.heap.size, 1, none⟩ = some (.int .i64 p.size) ∧ w1.cell? ⟨w.heap.size, 2, none⟩ = some (.slice D p.data.length d)) := ⟨below_cell hb1' (by omega) E0.out.1, below_cell hb1' (by omega) E0.out.2.1, below_cell hb1' (by omega) E0.out.2.2⟩
  have hz1 : w.heap.size + 2 ≤ w1.heap.size := by have := hb1'.size; omega
  clear e0 e1 e2 E0 hb1 hb1' Q0
  obtain ⟨e0, e1, e2⟩ := E1.out
  go_wp2_with (refine wpList_store_box rfl 32 (.tmp 4) (.tmp 11) rfl (w.heap.size + 1) 0 (resL noRes (.slice none 0 0) (.slice none 0 0)) rfl rfl (resL noRes (.slice none 0 0) (.slice none 0 0)) Q1.out (by rw [resL_len rfl]; exact Nat.le_refl _) 23 info_res (resL_len rfl) (resL_one rfl rfl) ?_; intro w2 B2' hg2; rw [splice_whole _ _ (by rw [resL_len rfl])] at B2'; have B2 := Lib.hid B2'; have HL2 := Lib.hid (Below.grown HL1.out hg2 HL1.out.size (fun k hk => grown_ge hk (by omega))); clear B2' hg2)
  refine bodyPost_ret (v := .agg (resL noRes (.slice none 0 0) (.slice none 0 0)).toArray) ?_ rfl ⟨_, _, rfl, ⟨World.ownsRow_nil _ _ _ _, World.ownsRow_nil _ _ _ _, rfl⟩, HL2.out⟩
  exact results_cell Try.results18 _ _ _ ⟨w.heap.size + 1, 0, none⟩ _ rfl (load_res B2.out rfl)

set_option maxHeartbeats 2000000 in
theorem refRun_right (A D : Option Addr) (c d : Nat) (p : Prog) (w : World) (fuel : Int) (hp : ProgV w w.heap.size (.slice A p.code.length c) (.slice D p.data.length d) p) (hd : ∀ b ∈ p.data, 0 ≤ b ∧ b ≤ 255) (hr : p.right = true) :
    Calls Try.prog 18 #[.agg #[.slice A p.code.length c, .int .i64 p.size, .slice D p.data.length d], .int .i64 fuel] w fun e w' => ∃ vm' vw', e = .returned (.agg (resL (runZ p fuel) vm' vw').toArray) ∧ ResOwn w' w.heap.size vm' vw' (runZ p fuel) ∧ Below w.heap.size w w' := by
  have HRT : Hid (p.right = true) := hr
  have HRC := Lib.hid (right_code hr)
  obtain ⟨km, hkm⟩ : ∃ k : Nat, p.size = (k : Int) := ⟨p.size.toNat, by have := HRC.out; omega⟩
  have HKM := Lib.hid hkm
  have HFL := Lib.hid (firstZ_len p km hkm (by have := HRC.out; omega))
  have hs0 : 0 ≤ p.size := HRC.out.2.2.1
  have hs1 : (p.data.length : Int) ≤ p.size := HRC.out.2.2.2.2.1
  obtain ⟨nf, hnf⟩ : ∃ n : Nat, n = clampZ fuel := ⟨_, rfl⟩
  have HCL := Lib.hid hnf.symm
  have HNF := Lib.hid (show nf ≤ 100000 by rw [hnf]; unfold clampZ; repeat' split; all_goals omega)
  clear hr hkm hnf
  obtain ⟨u1, u2⟩ := hp.code.cap
  obtain ⟨u3, u4⟩ := hp.data.cap
  have hs : ((w.alloc (.cells #[.slice A p.code.length c, .int .i64 p.size, .slice D p.data.length d] 25)).alloc (.cells #[.int .i64 0, .int .i64 0, .int .i64 0, .int .i64 0, .int .i64 0, .int .u32 0, .int .u32 0, .int .u32 0, .int .u32 0, .int .u32 0, .int .u32 0, .int .u32 0, .int .u32 0, .int .u32 0, .int .u32 0, .int .u32 0, .int .u32 0, .int .u32 0, .int .u32 0, .int .u32 0, .int .u32 0, .slice none 0 0, .slice none 0 0] 32)).heap.size = w.heap.size + 2 := by simp
  have HB := Lib.hid (((Below.refl w.heap.size w).alloc (Nat.le_refl _) (.cells #[.slice A p.code.length c, .int .i64 p.size, .slice D p.data.length d] 25)).alloc (by simp) (.cells #[.int .i64 0, .int .i64 0, .int .i64 0, .int .i64 0, .int .i64 0, .int .u32 0, .int .u32 0, .int .u32 0, .int .u32 0, .int .u32 0, .int .u32 0, .int .u32 0, .int .u32 0, .int .u32 0, .int .u32 0, .int .u32 0, .int .u32 0, .int .u32 0, .int .u32 0, .int .u32 0, .int .u32 0, .slice none 0 0, .slice none 0 0] 32))
  have HP0 := Lib.hid (fun (x : World) (h : Below w.heap.size w x) => hp.below h)
  have e0 : ((w.alloc (.cells #[.slice A p.code.length c, .int .i64 p.size, .slice D p.data.length d] 25)).alloc (.cells #[.int .i64 0, .int .i64 0, .int .i64 0, .int .i64 0, .int .i64 0, .int .u32 0, .int .u32 0, .int .u32 0, .int .u32 0, .int .u32 0, .int .u32 0, .int .u32 0, .int .u32 0, .int .u32 0, .int .u32 0, .int .u32 0, .int .u32 0, .int .u32 0, .int .u32 0, .int .u32 0, .int .u32 0, .slice none 0 0, .slice none 0 0] 32)).cell? ⟨w.heap.size, 0, none⟩ = some (.slice A p.code.length c) := by go_simp
  have e1 : ((w.alloc (.cells #[.slice A p.code.length c, .int .i64 p.size, .slice D p.data.length d] 25)).alloc (.cells #[.int .i64 0, .int .i64 0, .int .i64 0, .int .i64 0, .int .i64 0, .int .u32 0, .int .u32 0, .int .u32 0, .int .u32 0, .int .u32 0, .int .u32 0, .int .u32 0, .int .u32 0, .int .u32 0, .int .u32 0, .int .u32 0, .int .u32 0, .int .u32 0, .int .u32 0, .int .u32 0, .int .u32 0, .slice none 0 0, .slice none 0 0] 32)).cell? ⟨w.heap.size, 1, none⟩ = some (.int .i64 p.size) := by go_simp
  have e2 : ((w.alloc (.cells #[.slice A p.code.length c, .int .i64 p.size, .slice D p.data.length d] 25)).alloc (.cells #[.int .i64 0, .int .i64 0, .int .i64 0, .int .i64 0, .int .i64 0, .int .u32 0, .int .u32 0, .int .u32 0, .int .u32 0, .int .u32 0, .int .u32 0, .int .u32 0, .int .u32 0, .int .u32 0, .int .u32 0, .int .u32 0, .int .u32 0, .int .u32 0, .int .u32 0, .int .u32 0, .int .u32 0, .slice none 0 0, .slice none 0 0] 32)).cell? ⟨w.heap.size, 2, none⟩ = some (.slice D p.data.length d) := by go_simp
  have Q0 : Hid (Box ((w.alloc (.cells #[.slice A p.code.length c, .int .i64 p.size, .slice D p.data.length d] 25)).alloc (.cells #[.int .i64 0, .int .i64 0, .int .i64 0, .int .i64 0, .int .i64 0, .int .u32 0, .int .u32 0, .int .u32 0, .int .u32 0, .int .u32 0, .int .u32 0, .int .u32 0, .int .u32 0, .int .u32 0, .int .u32 0, .int .u32 0, .int .u32 0, .int .u32 0, .int .u32 0, .int .u32 0, .int .u32 0, .slice none 0 0, .slice none 0 0] 32)) (w.heap.size + 1) (resL noRes (.slice none 0 0) (.slice none 0 0))) := by
    have := Box.new (w.alloc (.cells #[.slice A p.code.length c, .int .i64 p.size, .slice D p.data.length d] 25)) (resL noRes (.slice none 0 0) (.slice none 0 0)) 32
    have e : (w.alloc (.cells #[.slice A p.code.length c, .int .i64 p.size, .slice D p.data.length d] 25)).heap.size = w.heap.size + 1 := by simp
    rw [e] at this
    exact this
  have E0 := Lib.hid (And.intro e0 (And.intro e1 e2))
  have HD := Lib.hid hd
  clear hp hd
  go_enter Try.func18, Try.ntmps18
  go_wp2_with fail
  generalize ((w.alloc (.cells #[.slice A p.code.length c, .int .i64 p.size, .slice D p.data.length d] 25)).alloc (.cells #[.int .i64 0, .int .i64 0, .int .i64 0, .int .i64 0, .int .i64 0, .int .u32 0, .int .u32 0, .int .u32 0, .int .u32 0, .int .u32 0, .int .u32 0, .int .u32 0, .int .u32 0, .int .u32 0, .int .u32 0, .int .u32 0, .int .u32 0, .int .u32 0, .int .u32 0, .int .u32 0, .int .u32 0, .slice none 0 0, .slice none 0 0] 32)) = W0 at *
  refine (refRight_any A c p.size D p.data.length d p.code _ (((HP0.out _ HB.out).code).more HB.out.size) u3 u4).mono ?_; rintro e w1 ⟨rfl, hb1⟩
  rw [show rightZ p.code p.size p.data.length = true from HRT.out]
  have hb1' : Below (w.heap.size + 2) W0 w1 := hs ▸ hb1
  have HL1 := Lib.hid (HB.out.trans (hb1'.mono (by omega)))
  have Q1 := Lib.hid (Q0.out.below hb1' (by omega))
  have E1 : Hid (w1.cell? ⟨w.heap.size, 0, none⟩ = some (.slice A p.code.length c) ∧ w1.cell? ⟨w.heap.size, 1, none⟩ = some (.int .i64 p.size) ∧ w1.cell? ⟨w.heap.size, 2, none⟩ = some (.slice D p.data.length d)) := ⟨below_cell hb1' (by omega) E0.out.1, below_cell hb1' (by omega) E0.out.2.1, below_cell hb1' (by omega) E0.out.2.2⟩
  have hz1 : w.heap.size + 2 ≤ w1.heap.size := by have := hb1'.size; omega
  clear e0 e1 e2 E0 hb1 hb1' Q0
  obtain ⟨e0, e1, e2⟩ := E1.out
  go_wp2_with fail
  refine (refFirst_any A D c d km p w1 ((HP0.out _ HL1.out).more HL1.out.size) HKM.out (by have := HRC.out; have := HKM.out; omega) (by have := HRC.out; have := HKM.out; omega)).mono ?_; rintro e w2 ⟨vm1, rfl, hO2, hb2⟩
  have Q2 := Lib.hid (Q1.out.below hb2 (by omega))
  have HL2 := Lib.hid (HL1.out.trans (hb2.mono HL1.out.size))
  have E2 : Hid (w2.cell? ⟨w.heap.size, 0, none⟩ = some (.slice A p.code.length c) ∧ w2.cell? ⟨w.heap.size, 1, none⟩ = some (.int .i64 p.size) ∧ w2.cell? ⟨w.heap.size, 2, none⟩ = some (.slice D p.data.length d)) := ⟨below_cell hb2 (by omega) E1.out.1, below_cell hb2 (by omega) E1.out.2.1, below_cell hb2 (by omega) E1.out.2.2⟩
  obtain ⟨Am, cm, rfl⟩ := (Row.of_own hO2).form
  have O2 := Lib.hid (own_base hO2 hz1)
  have hz2 : w.heap.size + 2 ≤ w2.heap.size := by have := hb2.size; omega
  clear e0 e1 e2 E1 Q1 HL1 hO2 hb2
  have hneq : some (w.heap.size + 1) ≠ some w2.heap.size := fun h => by injection h with h; omega
  have hne0 : some w.heap.size ≠ some w2.heap.size := fun h => by injection h with h; omega
  have BN := Lib.hid (Box.new w2 (resL noRes (.slice none 0 0) (.slice none 0 0)) 32)
  have AP3 : Hid (RowsApart w2.heap.size (.slice Am km cm) (.slice none 0 0)) := ⟨fun h => by have := O2.out.lt _ h; omega, fun h => by cases h⟩
  go_wp2_with (first
    | (refine wpList_built rfl 32 _ rfl _ (by simp only [List.map_toArray, List.map_cons, List.map_nil]; exact result_built Am km cm) ?_)
    | (refine wpList_store_box rfl 32 (.tmp 5) (.tmp 14) rfl w2.heap.size 0 (resL noRes (.slice Am km cm) (.slice none 0 0)) rfl rfl (resL noRes (.slice none 0 0) (.slice none 0 0)) BN.out (by rw [resL_len rfl]; exact Nat.le_refl _) 23 info_res (resL_len rfl) (resL_one rfl rfl) ?_; intro w3 hB3 hg3; rw [splice_whole _ _ (by rw [resL_len rfl, resL_len rfl])] at hB3))
  have MB3 : Hid (Box w3 w2.heap.size (resL (startZ p).1 (.slice Am km cm) (.slice none 0 0))) := hB3
  have O3 : Hid (ResOwn w3 (w.heap.size + 2) (.slice Am km cm) (.slice none 0 0) (startZ p).1) := by
    refine ⟨?_, World.ownsRow_nil _ _ _ _, rfl⟩
    show World.ownsRow _ _ _ _ _ (firstZ p).length _
    rw [HFL.out]
    exact (O2.out.alloc _).kept hg3 (.inr AP3.out.mem)
  have Q3 := Lib.hid ((Q2.out.alloc (.cells #[.int .i64 0, .int .i64 0, .int .i64 0, .int .i64 0, .int .i64 0, .int .u32 0, .int .u32 0, .int .u32 0, .int .u32 0, .int .u32 0, .int .u32 0, .int .u32 0, .int .u32 0, .int .u32 0, .int .u32 0, .int .u32 0, .int .u32 0, .int .u32 0, .int .u32 0, .int .u32 0, .int .u32 0, .slice none 0 0, .slice none 0 0] 32)).grown hg3 hneq)
  have HL3 := Lib.hid (Below.grown (HL2.out.alloc HL2.out.size (.cells #[.int .i64 0, .int .i64 0, .int .i64 0, .int .i64 0, .int .i64 0, .int .u32 0, .int .u32 0, .int .u32 0, .int .u32 0, .int .u32 0, .int .u32 0, .int .u32 0, .int .u32 0, .int .u32 0, .int .u32 0, .int .u32 0, .int .u32 0, .int .u32 0, .int .u32 0, .int .u32 0, .int .u32 0, .slice none 0 0, .slice none 0 0] 32)) hg3 (HL2.out.alloc HL2.out.size (.cells #[.int .i64 0, .int .i64 0, .int .i64 0, .int .i64 0, .int .i64 0, .int .u32 0, .int .u32 0, .int .u32 0, .int .u32 0, .int .u32 0, .int .u32 0, .int .u32 0, .int .u32 0, .int .u32 0, .int .u32 0, .int .u32 0, .int .u32 0, .int .u32 0, .int .u32 0, .int .u32 0, .int .u32 0, .slice none 0 0, .slice none 0 0] 32)).size (fun k hk => grown_ge hk (by omega)))
  have E3 : Hid (w3.cell? ⟨w.heap.size, 0, none⟩ = some (.slice A p.code.length c) ∧ w3.cell? ⟨w.heap.size, 1, none⟩ = some (.int .i64 p.size) ∧ w3.cell? ⟨w.heap.size, 2, none⟩ = some (.slice D p.data.length d)) := ⟨hg3.cell (one_cell (by omega) E2.out.1) hne0, hg3.cell (one_cell (by omega) E2.out.2.1) hne0, hg3.cell (one_cell (by omega) E2.out.2.2) hne0⟩
  clear hB3 hg3 hneq hne0 BN
  clear E2 Q2 HL2 O2
  generalize w2.heap.size = rb at *
  refine (refCap_clamp fuel w3).mono ?_; rintro e w4 ⟨rfl, rfl⟩
  rw [HCL.out]
  go_wp2_with fail
  go_loopw [6, 7] (fun q i wr => ∃ (k : Nat) (vm vw : Value), k ≤ nf ∧ q = .int .i64 (stepsZ p k (startZ p)).2 ∧ i = .int .i64 k ∧ RoundF p w3 wr (w.heap.size + 2) rb k vm vw) (fun _ i _ => nf - (intOf i).toNat)
  case atStart => exact ⟨0, _, _, Nat.zero_le _, rfl, rfl, ⟨MB3.out, O3.out, Below.refl _ _, AP3.out⟩⟩
  case round =>
    obtain ⟨k, vm, vw, hk, rfl, rfl, hR⟩ := hrel
    have hk5 : k ≤ 100000 := Nat.le_trans hk HNF.out
    have hok := RunOk.steps k (RunOk.start HD.out hs0 hs1) (by omega)
    have hrf := RunFits.steps HRT.out k (RunFits.start p) (RunOk.start HD.out hs0 hs1) (by omega)
    rw [Nat.zero_add] at hok hrf
    have HLr := Lib.hid (HL3.out.trans (hR.bel.mono (by omega)))
    have Qr := Lib.hid (Q3.out.below hR.bel (by omega))
    have HR := Lib.hid hR
    have HOK := Lib.hid hok
    have HRF := Lib.hid (Res.fits_of hok hrf (by omega))
    have hrbs : rb < wr.heap.size := hR.box.lt
    obtain ⟨M5, m5, rfl⟩ := (Row.of_own hR.own.mem).form
    obtain ⟨U5, u5, rfl⟩ := (Row.of_own hR.own.ws).form
    have c0 := hR.box.cell (resL_0 (r := (stepsZ p k (startZ p)).1))
    have e0 := below_cell hR.bel (show w.heap.size < w.heap.size + 2 by omega) E3.out.1
    have e1 := below_cell hR.bel (show w.heap.size < w.heap.size + 2 by omega) E3.out.2.1
    have e2 := below_cell hR.bel (show w.heap.size < w.heap.size + 2 by omega) E3.out.2.2
    have N5 := Lib.hid hR.own.regs
    have HNFk := Lib.hid hk
    clear hR hok hrf hk5 hk
    cases he : ((stepsZ p k (startZ p)).1.e == 0)
    · -- an end
      have he0 := Lib.hid (show (stepsZ p k (startZ p)).1.e ≠ 0 by simpa using he)
      have hrun := Lib.hid (show runZ p fuel = (stepsZ p k (startZ p)).1 by rw [runZ_at HRT.out HCL.out HNFk.out (.inr he0.out)]; unfold fuelZ; rw [if_neg he0.out])
      have BXr := Lib.hid HR.out.box
      have OXr := Lib.hid HR.out.own
      clear HR HOK HRF
      generalize (stepsZ p k (startZ p)) = x5 at *
      have hkk : (decide ((k : Int) < nf) = true ∧ decide (k < nf) = true) ∨ (decide ((k : Int) < nf) = false ∧ decide (k < nf) = false) := by
        by_cases hlt : k < nf
        · exact .inl ⟨decide_eq_true (by omega), decide_eq_true hlt⟩
        · exact .inr ⟨decide_eq_false (by omega), decide_eq_false hlt⟩
      rcases hkk with ⟨kq, kq2⟩ | ⟨kq, kq2⟩
      all_goals
        go_wp2_with (first
          | (refine wpList_load_box rfl 32 (.tmp 5) rfl rb 0 rfl (resL x5.1 (.slice M5 x5.1.mem.length m5) (.slice U5 x5.1.ws.length u5)) (resL x5.1 (.slice M5 x5.1.mem.length m5) (.slice U5 x5.1.ws.length u5)) BXr.out (fun j v hv => by rw [Nat.zero_add]; exact hv) _ Try.underlying32 rfl 23 info_res (resL_len N5.out) ?_)
          | (refine wpList_store_box rfl 32 (.tmp 4) (.tmp 38) rfl (w.heap.size + 1) 0 (resL x5.1 (.slice M5 x5.1.mem.length m5) (.slice U5 x5.1.ws.length u5)) rfl rfl (resL noRes (.slice none 0 0) (.slice none 0 0)) Qr.out (by rw [resL_len N5.out, resL_len rfl]; exact Nat.le_refl _) 23 info_res (resL_len N5.out) (resL_one rfl rfl) ?_; intro w9 hB9 hg9; rw [splice_whole _ _ (by rw [resL_len N5.out, resL_len rfl])] at hB9))
        refine bodyPost_ret (v := .agg (resL x5.1 (.slice M5 x5.1.mem.length m5) (.slice U5 x5.1.ws.length u5)).toArray) ?_ rfl ⟨_, _, by rw [hrun.out], ?_, ?_⟩
        · exact results_cell Try.results18 _ _ _ ⟨w.heap.size + 1, 0, none⟩ _ rfl (load_res hB9 N5.out)
        · rw [hrun.out]
          exact (OXr.out.grown hg9 (by omega)).base (by omega)
        · exact Below.grown HLr.out hg9 HLr.out.size (fun k hk => grown_ge hk (by omega))
    · have he0 := Lib.hid (show (stepsZ p k (startZ p)).1.e = 0 by simpa using he)
      by_cases hlt : k < nf
      · have k0 : (0 : Int) ≤ k := by omega
        have kq : decide ((k : Int) < nf) = true := decide_eq_true (by omega)
        have kq2 : decide (k < nf) = true := decide_eq_true hlt
        have hsu := Lib.hid (stepsZ_succ p k (startZ p))
        have HK1 := Lib.hid (show k + 1 ≤ nf from hlt)
        have hk7 : (k : Int) ≤ 100000 := by have := HNF.out; omega
        go_wp2_with (refine wpList_load_box rfl 32 (.tmp 5) rfl rb 0 rfl (resL (stepsZ p k (startZ p)).1 (.slice M5 (stepsZ p k (startZ p)).1.mem.length m5) (.slice U5 (stepsZ p k (startZ p)).1.ws.length u5)) (resL (stepsZ p k (startZ p)).1 (.slice M5 (stepsZ p k (startZ p)).1.mem.length m5) (.slice U5 (stepsZ p k (startZ p)).1.ws.length u5)) HR.out.box (fun j v hv => by rw [Nat.zero_add]; exact hv) _ Try.underlying32 rfl 23 info_res (resL_len N5.out) ?_)
        refine (refStep_any A D c d p M5 U5 m5 u5 (stepsZ p k (startZ p)).1 wr (stepsZ p k (startZ p)).2 ((HP0.out _ HLr.out).more HLr.out.size) HR.out.own.rows (by have := HOK.out.size; have := HRC.out; omega) (by have := HOK.out.ws; omega) HRF.out).mono ?_; rintro e w5 ⟨vm5, vw5, rfl, hO5, hb5⟩
        rw [← hsu.out] at hO5 ⊢
        have hv1 := own_one hO5.mem
        have hv2 := own_one hO5.ws
        have N6 := Lib.hid hO5.regs
        have BX5 := Lib.hid (HR.out.box.below hb5 hrbs)
        have hbel := Lib.hid (HR.out.bel.trans (hb5.mono (by omega)))
        have O5 := Lib.hid (hO5.base (show w.heap.size + 2 ≤ wr.heap.size by omega))
        have AP5 := Lib.hid (RowsApart.of hO5 hrbs)
        clear hO5 hb5
        go_wp2_with (refine wpList_store_box rfl 32 (.tmp 5) (.tmp 32) rfl rb 0 (resL (stepsZ p (k + 1) (startZ p)).1 vm5 vw5) rfl rfl (resL (stepsZ p k (startZ p)).1 (.slice M5 (stepsZ p k (startZ p)).1.mem.length m5) (.slice U5 (stepsZ p k (startZ p)).1.ws.length u5)) BX5.out (by rw [resL_len N6.out, resL_len N5.out]; exact Nat.le_refl _) 23 info_res (resL_len N6.out) (resL_one hv1 hv2) ?_; intro w6 hB6' hg6'; rw [splice_whole _ _ (by rw [resL_len N6.out, resL_len N5.out])] at hB6'; have hB6 := Lib.hid hB6'; have hg6 := Lib.hid hg6'; clear hB6' hg6')
        go_roundw
        case rel => exact ⟨k + 1, vm5, vw5, HK1.out, rfl, by go_num, ⟨hB6.out, O5.out.grownA AP5.out hg6.out, Below.grown hbel.out hg6.out (by have := BX5.out.lt; omega) (fun k hk => grown_ge hk (by omega)), AP5.out⟩⟩
        case measure => simp [intOf]; omega
      · have kq : decide ((k : Int) < nf) = false := decide_eq_false (by omega)
        have kq2 : decide (k < nf) = false := decide_eq_false hlt
        have hrun := Lib.hid (show runZ p fuel = { (stepsZ p k (startZ p)).1 with e := 3 } by rw [runZ_at HRT.out HCL.out HNFk.out (.inl (by have := HNFk.out; omega))]; unfold fuelZ; rw [if_pos he0.out])
        have d0 := HR.out.box.frozen 0
        have BX6 : Hid (Box (wr.setCell ⟨rb, 0, none⟩ (.int .i64 3)) rb (resL { (stepsZ p k (startZ p)).1 with e := 3 } (.slice M5 (stepsZ p k (startZ p)).1.mem.length m5) (.slice U5 (stepsZ p k (startZ p)).1.ws.length u5))) := by
          have := HR.out.box.setCell 0 (.int .i64 3)
          rwa [resL_set0] at this
        have OX6 : Hid (ResOwn (wr.setCell ⟨rb, 0, none⟩ (.int .i64 3)) (w.heap.size + 2) (.slice M5 (stepsZ p k (startZ p)).1.mem.length m5) (.slice U5 (stepsZ p k (startZ p)).1.ws.length u5) { (stepsZ p k (startZ p)).1 with e := 3 }) := by
          have o := HR.out.own.setRB HR.out.apart 0 (.int .i64 3) hrbs
          exact ⟨o.mem, o.ws, o.regs⟩
        have HL6 := Lib.hid (HLr.out.setCell (p := ⟨rb, 0, none⟩) (show w.heap.size ≤ rb by omega) (.int .i64 3))
        have Q6 := Lib.hid (Qr.out.setCell_other (show w.heap.size + 1 ≠ rb by omega) 0 (.int .i64 3))
        clear HOK HRF hlt
        generalize (stepsZ p k (startZ p)) = x5 at *
        go_wp2_with (first
          | (refine wpList_load_box rfl 32 (.tmp 5) rfl rb 0 rfl (resL { x5.1 with e := 3 } (.slice M5 x5.1.mem.length m5) (.slice U5 x5.1.ws.length u5)) (resL { x5.1 with e := 3 } (.slice M5 x5.1.mem.length m5) (.slice U5 x5.1.ws.length u5)) BX6.out (fun j v hv => by rw [Nat.zero_add]; exact hv) _ Try.underlying32 rfl 23 info_res (resL_len (r := { x5.1 with e := 3 }) N5.out) ?_)
          | (refine wpList_store_box rfl 32 (.tmp 4) (.tmp 38) rfl (w.heap.size + 1) 0 (resL { x5.1 with e := 3 } (.slice M5 x5.1.mem.length m5) (.slice U5 x5.1.ws.length u5)) rfl rfl (resL noRes (.slice none 0 0) (.slice none 0 0)) Q6.out (by rw [resL_len (r := { x5.1 with e := 3 }) N5.out, resL_len rfl]; exact Nat.le_refl _) 23 info_res (resL_len (r := { x5.1 with e := 3 }) N5.out) (resL_one rfl rfl) ?_; intro w9 hB9 hg9; rw [splice_whole _ _ (by rw [resL_len (r := { x5.1 with e := 3 }) N5.out, resL_len rfl])] at hB9))
        refine bodyPost_ret (v := .agg (resL { x5.1 with e := 3 } (.slice M5 x5.1.mem.length m5) (.slice U5 x5.1.ws.length u5)).toArray) ?_ rfl ⟨_, _, by rw [hrun.out], ?_, ?_⟩
        · exact results_cell Try.results18 _ _ _ ⟨w.heap.size + 1, 0, none⟩ _ rfl (load_res hB9 N5.out)
        · rw [hrun.out]
          exact (OX6.out.grown hg9 (by omega)).base (by omega)
        · exact Below.grown HL6.out hg9 HL6.out.size (fun k hk => grown_ge hk (by omega))

theorem refRun_any (A D : Option Addr) (c d : Nat) (p : Prog) (w : World) (fuel : Int) (hp : ProgV w w.heap.size (.slice A p.code.length c) (.slice D p.data.length d) p) (hd : ∀ b ∈ p.data, 0 ≤ b ∧ b ≤ 255) :
    Calls Try.prog 18 #[.agg #[.slice A p.code.length c, .int .i64 p.size, .slice D p.data.length d], .int .i64 fuel] w fun e w' => ∃ vm' vw', e = .returned (.agg (resL (runZ p fuel) vm' vw').toArray) ∧ ResOwn w' w.heap.size vm' vw' (runZ p fuel) ∧ Below w.heap.size w w' := by
  cases h : p.right
  · exact refRun_wrong A D c d p w fuel hp hd h
  · exact refRun_right A D c d p w fuel hp hd h
end Go.Proofs.Ytjbobihiigeapaa.Words

/- The walk of SeqTells: what one step leaves of any result, and what a whole run leaves. -/
import Derived.Test.YtjbobihiigeapaaG11
import Derived.Test.YtjbobihiigeapaaSImageHelp
import Derived.Test.YtjbobihiigeapaaG17
import Derived.Test.YtjbobihiigeapaaG18
import Derived.Test.YtjbobihiigeapaaSRunGrow
namespace Go.Proofs.Ytjbobihiigeapaa.Words
set_option maxRecDepth 100000
open Go.RowKit
set_option linter.unusedVariables false

theorem stepZ_mem {p : Prog} {r : Res} (h : ∀ b ∈ r.mem, 0 ≤ b ∧ b ≤ 255) (pc : Int) : ∀ b ∈ (stepZ p r pc).1.mem, 0 ≤ b ∧ b ≤ 255 := by
  unfold stepZ insZ
  repeat' split
  all_goals first
    | exact h
    | exact storeZ_bytes h
section
variable {P : Program} {ops : Array Oper} {rest : LinO} {o : Oper} {a : Act} {Q : Exit → Act → World → Prop} {R : Act → World → Prop} {S : World → Prop} {w : World}
theorem tree_store_box (hS : S w) (hw : Region.wanted o (yielded ops a.tmps) = true) (ty : TypeId) (x y : Operand) (ho : o.op = .store ty x y)
    (b k : Nat) (cs : List Value) (hx : a.eval x = .pointer (some ⟨b, k, none⟩)) (hy : a.eval y = .agg cs.toArray) (l : List Value) (hb : Box w b l) (hl : k + cs.length ≤ l.length)
    (n : Nat) (hi : (P.info? ty).map (·.size) = some n) (hn : cs.length = n) (h1 : ∀ v ∈ cs, v.oneCell' = true)
    (hT : ∀ w', Box w' b (splice l k cs) → w.grownBy w' (some b) → S w')
    (h : ∀ w', Box w' b (splice l k cs) → w.grownBy w' (some b) → wpT P ops Q R rest S (a.put o.dst undef) w') : wpT P ops Q R (.one (some o) false rest) S a w :=
  tree_call hS hw fun K hK => wp_store_mid ty x y ho b k cs.toArray hx hy (hb.there (by simpa using hl)) (by rw [hi]; simp [hn]) (all_oneCell_toArray h1) (hK.out _ _
    (hT _ (by simpa using hb.setCells hl) (by simpa using grown_setCells w b cs k hb.lt)) fun _ => h _ (by simpa using hb.setCells hl) (by simpa using grown_setCells w b cs k hb.lt))
end

set_option maxHeartbeats 1000000 in
theorem seqTells_few (A D : Option Addr) (c d : Nat) (p : Prog) (M U : Option Addr) (m u : Nat) (r : Res) (pc fuel : Int) (w : World) (hp : ProgV w w.heap.size (.slice A p.code.length c) (.slice D p.data.length d) p) (hf : p.Fits) (hr : ResV w w.heap.size (.slice M r.mem.length m) (.slice U r.ws.length u) r) (fr : r.Fits) (hfew : fewB p.code.length p.data.length = false) :
    Calls Try.prog 3 #[.agg #[.slice A p.code.length c, .int .i64 p.size, .slice D p.data.length d], .agg (resL r (.slice M r.mem.length m) (.slice U r.ws.length u)).toArray, .int .i64 pc, .int .i64 fuel] w fun e w' => e = .returned (.bool true) ∧ Below w.heap.size w w' := by
  have HF : Hid (fewB p.code.length p.data.length = false) := hfew
  clear hfew
  obtain ⟨u1, u2⟩ := hp.code.cap
  obtain ⟨u3, u4⟩ := hp.data.cap
  obtain ⟨u5, u6⟩ := hr.mem.cap
  obtain ⟨u7, u8⟩ := hr.ws.cap
  have h16 := hr.regs
  have hs : ((w.alloc (.cells #[.slice A p.code.length c, .int .i64 p.size, .slice D p.data.length d] 25)).alloc (.cells (resL r (.slice M r.mem.length m) (.slice U r.ws.length u)).toArray 32)).heap.size = w.heap.size + 2 := by simp
  have HB := Lib.hid (((Below.refl w.heap.size w).alloc (Nat.le_refl _) (.cells #[.slice A p.code.length c, .int .i64 p.size, .slice D p.data.length d] 25)).alloc (by simp) (.cells (resL r (.slice M r.mem.length m) (.slice U r.ws.length u)).toArray 32))
  have HP0 := Lib.hid (fun (x : World) (h : Below w.heap.size w x) => (hp.below h).more h.size)
  have HV0 := Lib.hid (fun (x : World) (h : Below w.heap.size w x) => (hr.below h).more h.size)
  have e0 : ((w.alloc (.cells #[.slice A p.code.length c, .int .i64 p.size, .slice D p.data.length d] 25)).alloc (.cells (resL r (.slice M r.mem.length m) (.slice U r.ws.length u)).toArray 32)).cell? ⟨w.heap.size, 0, none⟩ = some (.slice A p.code.length c) := by go_simp
  have e1 : ((w.alloc (.cells #[.slice A p.code.length c, .int .i64 p.size, .slice D p.data.length d] 25)).alloc (.cells (resL r (.slice M r.mem.length m) (.slice U r.ws.length u)).toArray 32)).cell? ⟨w.heap.size, 1, none⟩ = some (.int .i64 p.size) := by go_simp
  have e2 : ((w.alloc (.cells #[.slice A p.code.length c, .int .i64 p.size, .slice D p.data.length d] 25)).alloc (.cells (resL r (.slice M r.mem.length m) (.slice U r.ws.length u)).toArray 32)).cell? ⟨w.heap.size, 2, none⟩ = some (.slice D p.data.length d) := by go_simp
  have B0 : Hid (Box ((w.alloc (.cells #[.slice A p.code.length c, .int .i64 p.size, .slice D p.data.length d] 25)).alloc (.cells (resL r (.slice M r.mem.length m) (.slice U r.ws.length u)).toArray 32)) (w.heap.size + 1) (resL r (.slice M r.mem.length m) (.slice U r.ws.length u))) := by
    have := Box.new (w.alloc (.cells #[.slice A p.code.length c, .int .i64 p.size, .slice D p.data.length d] 25)) (resL r (.slice M r.mem.length m) (.slice U r.ws.length u)) 32
    have e : (w.alloc (.cells #[.slice A p.code.length c, .int .i64 p.size, .slice D p.data.length d] 25)).heap.size = w.heap.size + 1 := by simp
    rw [e] at this
    exact this
  have HD := Lib.hid hf.2.2
  have FR := Lib.hid fr
  clear hp hf hr fr
  go_enter Try.func3, Try.ntmps3
  go_wp2_with fail
  generalize ((w.alloc (.cells #[.slice A p.code.length c, .int .i64 p.size, .slice D p.data.length d] 25)).alloc (.cells (resL r (.slice M r.mem.length m) (.slice U r.ws.length u)).toArray 32)) = W0 at *
  have EF := Lib.hid (fun (x : World) (h : Below (w.heap.size + 2) W0 x) => And.intro (below_cell h (by omega) e0) (And.intro (below_cell h (by omega) e1) (below_cell h (by omega) e2)))
  have HL := Lib.hid (fun (x : World) (h : Below (w.heap.size + 2) W0 x) => HB.out.trans (h.mono (by omega)))
  have BF := Lib.hid (fun (x : World) (h : Below (w.heap.size + 2) W0 x) => B0.out.below h (by omega))
  clear e0 e1 e2
  refine (seqAlive_any _).mono ?_; rintro e w1 ⟨rfl, hb1⟩
  have k1 : Below (w.heap.size + 2) W0 w1 := hs ▸ hb1
  obtain ⟨e0, e1, e2⟩ := EF.out _ k1
  clear hb1
  go_wp2_with fail
  refine (few_any A D p.code.length c p.data.length d p.size _ (by omega) (by omega)).mono ?_; rintro e w2 ⟨rfl, hb2⟩
  rw [HF.out]
  have k2 := k1.trans (hb2.mono (by have := k1.size; omega))
  clear hb2 e0 e1 e2 k1
  obtain ⟨e0, e1, e2⟩ := EF.out _ k2
  go_wp2_with fail
  go_ret
  exact ⟨rfl, HL.out _ k2⟩

set_option maxHeartbeats 1000000 in
theorem seqTells_size (A D : Option Addr) (c d : Nat) (p : Prog) (M U : Option Addr) (m u : Nat) (r : Res) (pc fuel : Int) (w : World) (hp : ProgV w w.heap.size (.slice A p.code.length c) (.slice D p.data.length d) p) (hf : p.Fits) (hr : ResV w w.heap.size (.slice M r.mem.length m) (.slice U r.ws.length u) r) (fr : r.Fits) (hfew : fewB p.code.length p.data.length = true) (hz : 1000 < p.size) :
    Calls Try.prog 3 #[.agg #[.slice A p.code.length c, .int .i64 p.size, .slice D p.data.length d], .agg (resL r (.slice M r.mem.length m) (.slice U r.ws.length u)).toArray, .int .i64 pc, .int .i64 fuel] w fun e w' => e = .returned (.bool true) ∧ Below w.heap.size w w' := by
  have HF : Hid (fewB p.code.length p.data.length = true) := hfew
  clear hfew
  obtain ⟨u1, u2⟩ := hp.code.cap
  obtain ⟨u3, u4⟩ := hp.data.cap
  obtain ⟨u5, u6⟩ := hr.mem.cap
  obtain ⟨u7, u8⟩ := hr.ws.cap
  have h16 := hr.regs
  have hs : ((w.alloc (.cells #[.slice A p.code.length c, .int .i64 p.size, .slice D p.data.length d] 25)).alloc (.cells (resL r (.slice M r.mem.length m) (.slice U r.ws.length u)).toArray 32)).heap.size = w.heap.size + 2 := by simp
  have HB := Lib.hid (((Below.refl w.heap.size w).alloc (Nat.le_refl _) (.cells #[.slice A p.code.length c, .int .i64 p.size, .slice D p.data.length d] 25)).alloc (by simp) (.cells (resL r (.slice M r.mem.length m) (.slice U r.ws.length u)).toArray 32))
  have HP0 := Lib.hid (fun (x : World) (h : Below w.heap.size w x) => (hp.below h).more h.size)
  have HV0 := Lib.hid (fun (x : World) (h : Below w.heap.size w x) => (hr.below h).more h.size)
  have e0 : ((w.alloc (.cells #[.slice A p.code.length c, .int .i64 p.size, .slice D p.data.length d] 25)).alloc (.cells (resL r (.slice M r.mem.length m) (.slice U r.ws.length u)).toArray 32)).cell? ⟨w.heap.size, 0, none⟩ = some (.slice A p.code.length c) := by go_simp
  have e1 : ((w.alloc (.cells #[.slice A p.code.length c, .int .i64 p.size, .slice D p.data.length d] 25)).alloc (.cells (resL r (.slice M r.mem.length m) (.slice U r.ws.length u)).toArray 32)).cell? ⟨w.heap.size, 1, none⟩ = some (.int .i64 p.size) := by go_simp
  have e2 : ((w.alloc (.cells #[.slice A p.code.length c, .int .i64 p.size, .slice D p.data.length d] 25)).alloc (.cells (resL r (.slice M r.mem.length m) (.slice U r.ws.length u)).toArray 32)).cell? ⟨w.heap.size, 2, none⟩ = some (.slice D p.data.length d) := by go_simp
  have B0 : Hid (Box ((w.alloc (.cells #[.slice A p.code.length c, .int .i64 p.size, .slice D p.data.length d] 25)).alloc (.cells (resL r (.slice M r.mem.length m) (.slice U r.ws.length u)).toArray 32)) (w.heap.size + 1) (resL r (.slice M r.mem.length m) (.slice U r.ws.length u))) := by
    have := Box.new (w.alloc (.cells #[.slice A p.code.length c, .int .i64 p.size, .slice D p.data.length d] 25)) (resL r (.slice M r.mem.length m) (.slice U r.ws.length u)) 32
    have e : (w.alloc (.cells #[.slice A p.code.length c, .int .i64 p.size, .slice D p.data.length d] 25)).heap.size = w.heap.size + 1 := by simp
    rw [e] at this
    exact this
  have HD := Lib.hid hf.2.2
  have FR := Lib.hid fr
  clear hp hf hr fr
  go_enter Try.func3, Try.ntmps3
  go_wp2_with fail
  generalize ((w.alloc (.cells #[.slice A p.code.length c, .int .i64 p.size, .slice D p.data.length d] 25)).alloc (.cells (resL r (.slice M r.mem.length m) (.slice U r.ws.length u)).toArray 32)) = W0 at *
  have EF := Lib.hid (fun (x : World) (h : Below (w.heap.size + 2) W0 x) => And.intro (below_cell h (by omega) e0) (And.intro (below_cell h (by omega) e1) (below_cell h (by omega) e2)))
  have HL := Lib.hid (fun (x : World) (h : Below (w.heap.size + 2) W0 x) => HB.out.trans (h.mono (by omega)))
  have BF := Lib.hid (fun (x : World) (h : Below (w.heap.size + 2) W0 x) => B0.out.below h (by omega))
  clear e0 e1 e2
  refine (seqAlive_any _).mono ?_; rintro e w1 ⟨rfl, hb1⟩
  have k1 : Below (w.heap.size + 2) W0 w1 := hs ▸ hb1
  obtain ⟨e0, e1, e2⟩ := EF.out _ k1
  clear hb1
  go_wp2_with fail
  refine (few_any A D p.code.length c p.data.length d p.size _ (by omega) (by omega)).mono ?_; rintro e w2 ⟨rfl, hb2⟩
  rw [HF.out]
  have k2 := k1.trans (hb2.mono (by have := k1.size; omega))
  clear hb2 e0 e1 e2 k1
  obtain ⟨e0, e1, e2⟩ := EF.out _ k2
  go_wp2_with fail
  go_ret
  exact ⟨rfl, HL.out _ k2⟩

set_option maxHeartbeats 1000000 in
theorem seqTells_rfew (A D : Option Addr) (c d : Nat) (p : Prog) (M U : Option Addr) (m u : Nat) (r : Res) (pc fuel : Int) (w : World) (hp : ProgV w w.heap.size (.slice A p.code.length c) (.slice D p.data.length d) p) (hf : p.Fits) (hr : ResV w w.heap.size (.slice M r.mem.length m) (.slice U r.ws.length u) r) (fr : r.Fits) (hfew : fewB p.code.length p.data.length = true) (hz : p.size ≤ 1000) (hrf : (decide (r.mem.length ≤ 1000) && decide (r.ws.length ≤ 200)) = false) :
    Calls Try.prog 3 #[.agg #[.slice A p.code.length c, .int .i64 p.size, .slice D p.data.length d], .agg (resL r (.slice M r.mem.length m) (.slice U r.ws.length u)).toArray, .int .i64 pc, .int .i64 fuel] w fun e w' => e = .returned (.bool true) ∧ Below w.heap.size w w' := by
  have HF : Hid (fewB p.code.length p.data.length = true) := hfew
  have HRFEW : Hid ((decide (r.mem.length ≤ 1000) && decide (r.ws.length ≤ 200)) = false) := hrf
  clear hfew hrf
  obtain ⟨u1, u2⟩ := hp.code.cap
  obtain ⟨u3, u4⟩ := hp.data.cap
  obtain ⟨u5, u6⟩ := hr.mem.cap
  obtain ⟨u7, u8⟩ := hr.ws.cap
  have h16 := hr.regs
  have hs : ((w.alloc (.cells #[.slice A p.code.length c, .int .i64 p.size, .slice D p.data.length d] 25)).alloc (.cells (resL r (.slice M r.mem.length m) (.slice U r.ws.length u)).toArray 32)).heap.size = w.heap.size + 2 := by simp
  have HB := Lib.hid (((Below.refl w.heap.size w).alloc (Nat.le_refl _) (.cells #[.slice A p.code.length c, .int .i64 p.size, .slice D p.data.length d] 25)).alloc (by simp) (.cells (resL r (.slice M r.mem.length m) (.slice U r.ws.length u)).toArray 32))
  have HP0 := Lib.hid (fun (x : World) (h : Below w.heap.size w x) => (hp.below h).more h.size)
  have HV0 := Lib.hid (fun (x : World) (h : Below w.heap.size w x) => (hr.below h).more h.size)
  have e0 : ((w.alloc (.cells #[.slice A p.code.length c, .int .i64 p.size, .slice D p.data.length d] 25)).alloc (.cells (resL r (.slice M r.mem.length m) (.slice U r.ws.length u)).toArray 32)).cell? ⟨w.heap.size, 0, none⟩ = some (.slice A p.code.length c) := by go_simp
  have e1 : ((w.alloc (.cells #[.slice A p.code.length c, .int .i64 p.size, .slice D p.data.length d] 25)).alloc (.cells (resL r (.slice M r.mem.length m) (.slice U r.ws.length u)).toArray 32)).cell? ⟨w.heap.size, 1, none⟩ = some (.int .i64 p.size) := by go_simp
  have e2 : ((w.alloc (.cells #[.slice A p.code.length c, .int .i64 p.size, .slice D p.data.length d] 25)).alloc (.cells (resL r (.slice M r.mem.length m) (.slice U r.ws.length u)).toArray 32)).cell? ⟨w.heap.size, 2, none⟩ = some (.slice D p.data.length d) := by go_simp
  have B0 : Hid (Box ((w.alloc (.cells #[.slice A p.code.length c, .int .i64 p.size, .slice D p.data.length d] 25)).alloc (.cells (resL r (.slice M r.mem.length m) (.slice U r.ws.length u)).toArray 32)) (w.heap.size + 1) (resL r (.slice M r.mem.length m) (.slice U r.ws.length u))) := by
    have := Box.new (w.alloc (.cells #[.slice A p.code.length c, .int .i64 p.size, .slice D p.data.length d] 25)) (resL r (.slice M r.mem.length m) (.slice U r.ws.length u)) 32
    have e : (w.alloc (.cells #[.slice A p.code.length c, .int .i64 p.size, .slice D p.data.length d] 25)).heap.size = w.heap.size + 1 := by simp
    rw [e] at this
    exact this
  have HD := Lib.hid hf.2.2
  have FR := Lib.hid fr
  clear hp hf hr fr
  go_enter Try.func3, Try.ntmps3
  go_wp2_with fail
  generalize ((w.alloc (.cells #[.slice A p.code.length c, .int .i64 p.size, .slice D p.data.length d] 25)).alloc (.cells (resL r (.slice M r.mem.length m) (.slice U r.ws.length u)).toArray 32)) = W0 at *
  have EF := Lib.hid (fun (x : World) (h : Below (w.heap.size + 2) W0 x) => And.intro (below_cell h (by omega) e0) (And.intro (below_cell h (by omega) e1) (below_cell h (by omega) e2)))
  have HL := Lib.hid (fun (x : World) (h : Below (w.heap.size + 2) W0 x) => HB.out.trans (h.mono (by omega)))
  have BF := Lib.hid (fun (x : World) (h : Below (w.heap.size + 2) W0 x) => B0.out.below h (by omega))
  clear e0 e1 e2
  refine (seqAlive_any _).mono ?_; rintro e w1 ⟨rfl, hb1⟩
  have k1 : Below (w.heap.size + 2) W0 w1 := hs ▸ hb1
  obtain ⟨e0, e1, e2⟩ := EF.out _ k1
  clear hb1
  go_wp2_with fail
  refine (few_any A D p.code.length c p.data.length d p.size _ (by omega) (by omega)).mono ?_; rintro e w2 ⟨rfl, hb2⟩
  rw [HF.out]
  have k2 := k1.trans (hb2.mono (by have := k1.size; omega))
  clear hb2 e0 e1 e2 k1
  obtain ⟨e0, e1, e2⟩ := EF.out _ k2
  have hzd : decide (1000 < p.size) = false := decide_eq_false (by omega)
  go_wp2_with (refine wpList_load_box rfl 32 (.tmp 5) rfl (w.heap.size + 1) 0 rfl (resL r (.slice M r.mem.length m) (.slice U r.ws.length u)) (resL r (.slice M r.mem.length m) (.slice U r.ws.length u)) (BF.out _ k2) (fun j v hv => by rw [Nat.zero_add]; exact hv) _ Try.underlying32 rfl 23 info_res (resL_len h16) ?_)
  refine (seqFew_any M U m u r _ h16 (by omega) (by omega)).mono ?_; rintro e w3 ⟨rfl, hb3⟩
  rw [HRFEW.out]
  have k3 := k2.trans (hb3.mono (by have := k2.size; omega))
  clear hb3 e0 e1 e2 k2
  obtain ⟨e0, e1, e2⟩ := EF.out _ k3
  go_wp2_with fail
  go_ret
  exact ⟨rfl, HL.out _ k3⟩

set_option maxHeartbeats 1000000 in
theorem seqTells_far (A D : Option Addr) (c d : Nat) (p : Prog) (M U : Option Addr) (m u : Nat) (r : Res) (pc fuel : Int) (w : World) (hp : ProgV w w.heap.size (.slice A p.code.length c) (.slice D p.data.length d) p) (hf : p.Fits) (hr : ResV w w.heap.size (.slice M r.mem.length m) (.slice U r.ws.length u) r) (fr : r.Fits) (hfew : fewB p.code.length p.data.length = true) (hz : p.size ≤ 1000) (hrf : (decide (r.mem.length ≤ 1000) && decide (r.ws.length ≤ 200)) = true) (ho : 300 < fuel) :
    Calls Try.prog 3 #[.agg #[.slice A p.code.length c, .int .i64 p.size, .slice D p.data.length d], .agg (resL r (.slice M r.mem.length m) (.slice U r.ws.length u)).toArray, .int .i64 pc, .int .i64 fuel] w fun e w' => e = .returned (.bool true) ∧ Below w.heap.size w w' := by
  have HF : Hid (fewB p.code.length p.data.length = true) := hfew
  have HRFEW : Hid ((decide (r.mem.length ≤ 1000) && decide (r.ws.length ≤ 200)) = true) := hrf
  clear hfew hrf
  obtain ⟨u1, u2⟩ := hp.code.cap
  obtain ⟨u3, u4⟩ := hp.data.cap
  obtain ⟨u5, u6⟩ := hr.mem.cap
  obtain ⟨u7, u8⟩ := hr.ws.cap
  have h16 := hr.regs
  have hs : ((w.alloc (.cells #[.slice A p.code.length c, .int .i64 p.size, .slice D p.data.length d] 25)).alloc (.cells (resL r (.slice M r.mem.length m) (.slice U r.ws.length u)).toArray 32)).heap.size = w.heap.size + 2 := by simp
  have HB := Lib.hid (((Below.refl w.heap.size w).alloc (Nat.le_refl _) (.cells #[.slice A p.code.length c, .int .i64 p.size, .slice D p.data.length d] 25)).alloc (by simp) (.cells (resL r (.slice M r.mem.length m) (.slice U r.ws.length u)).toArray 32))
  have HP0 := Lib.hid (fun (x : World) (h : Below w.heap.size w x) => (hp.below h).more h.size)
  have HV0 := Lib.hid (fun (x : World) (h : Below w.heap.size w x) => (hr.below h).more h.size)
  have e0 : ((w.alloc (.cells #[.slice A p.code.length c, .int .i64 p.size, .slice D p.data.length d] 25)).alloc (.cells (resL r (.slice M r.mem.length m) (.slice U r.ws.length u)).toArray 32)).cell? ⟨w.heap.size, 0, none⟩ = some (.slice A p.code.length c) := by go_simp
  have e1 : ((w.alloc (.cells #[.slice A p.code.length c, .int .i64 p.size, .slice D p.data.length d] 25)).alloc (.cells (resL r (.slice M r.mem.length m) (.slice U r.ws.length u)).toArray 32)).cell? ⟨w.heap.size, 1, none⟩ = some (.int .i64 p.size) := by go_simp
  have e2 : ((w.alloc (.cells #[.slice A p.code.length c, .int .i64 p.size, .slice D p.data.length d] 25)).alloc (.cells (resL r (.slice M r.mem.length m) (.slice U r.ws.length u)).toArray 32)).cell? ⟨w.heap.size, 2, none⟩ = some (.slice D p.data.length d) := by go_simp
  have B0 : Hid (Box ((w.alloc (.cells #[.slice A p.code.length c, .int .i64 p.size, .slice D p.data.length d] 25)).alloc (.cells (resL r (.slice M r.mem.length m) (.slice U r.ws.length u)).toArray 32)) (w.heap.size + 1) (resL r (.slice M r.mem.length m) (.slice U r.ws.length u))) := by
    have := Box.new (w.alloc (.cells #[.slice A p.code.length c, .int .i64 p.size, .slice D p.data.length d] 25)) (resL r (.slice M r.mem.length m) (.slice U r.ws.length u)) 32
    have e : (w.alloc (.cells #[.slice A p.code.length c, .int .i64 p.size, .slice D p.data.length d] 25)).heap.size = w.heap.size + 1 := by simp
    rw [e] at this
    exact this
  have HD := Lib.hid hf.2.2
  have FR := Lib.hid fr
  clear hp hf hr fr
  go_enter Try.func3, Try.ntmps3
  go_wp2_with fail
  generalize ((w.alloc (.cells #[.slice A p.code.length c, .int .i64 p.size, .slice D p.data.length d] 25)).alloc (.cells (resL r (.slice M r.mem.length m) (.slice U r.ws.length u)).toArray 32)) = W0 at *
  have EF := Lib.hid (fun (x : World) (h : Below (w.heap.size + 2) W0 x) => And.intro (below_cell h (by omega) e0) (And.intro (below_cell h (by omega) e1) (below_cell h (by omega) e2)))
  have HL := Lib.hid (fun (x : World) (h : Below (w.heap.size + 2) W0 x) => HB.out.trans (h.mono (by omega)))
  have BF := Lib.hid (fun (x : World) (h : Below (w.heap.size + 2) W0 x) => B0.out.below h (by omega))
  clear e0 e1 e2
  refine (seqAlive_any _).mono ?_; rintro e w1 ⟨rfl, hb1⟩
  have k1 : Below (w.heap.size + 2) W0 w1 := hs ▸ hb1
  obtain ⟨e0, e1, e2⟩ := EF.out _ k1
  clear hb1
  go_wp2_with fail
  refine (few_any A D p.code.length c p.data.length d p.size _ (by omega) (by omega)).mono ?_; rintro e w2 ⟨rfl, hb2⟩
  rw [HF.out]
  have k2 := k1.trans (hb2.mono (by have := k1.size; omega))
  clear hb2 e0 e1 e2 k1
  obtain ⟨e0, e1, e2⟩ := EF.out _ k2
  have hzd : decide (1000 < p.size) = false := decide_eq_false (by omega)
  go_wp2_with (refine wpList_load_box rfl 32 (.tmp 5) rfl (w.heap.size + 1) 0 rfl (resL r (.slice M r.mem.length m) (.slice U r.ws.length u)) (resL r (.slice M r.mem.length m) (.slice U r.ws.length u)) (BF.out _ k2) (fun j v hv => by rw [Nat.zero_add]; exact hv) _ Try.underlying32 rfl 23 info_res (resL_len h16) ?_)
  refine (seqFew_any M U m u r _ h16 (by omega) (by omega)).mono ?_; rintro e w3 ⟨rfl, hb3⟩
  rw [HRFEW.out]
  have k3 := k2.trans (hb3.mono (by have := k2.size; omega))
  clear hb3 e0 e1 e2 k2
  obtain ⟨e0, e1, e2⟩ := EF.out _ k3
  go_wp2_with fail
  go_ret
  exact ⟨rfl, HL.out _ k3⟩

set_option maxHeartbeats 4000000 in
theorem seqTells_in (A D : Option Addr) (c d : Nat) (p : Prog) (M U : Option Addr) (m u : Nat) (r : Res) (pc fuel : Int) (w : World) (hp : ProgV w w.heap.size (.slice A p.code.length c) (.slice D p.data.length d) p) (hf : p.Fits) (hr : ResV w w.heap.size (.slice M r.mem.length m) (.slice U r.ws.length u) r) (fr : r.Fits) (hfew : fewB p.code.length p.data.length = true) (hz : p.size ≤ 1000) (hrf : (decide (r.mem.length ≤ 1000) && decide (r.ws.length ≤ 200)) = true) (ho : fuel ≤ 300) (hfb : -9223372036854775808 ≤ fuel) :
    Calls Try.prog 3 #[.agg #[.slice A p.code.length c, .int .i64 p.size, .slice D p.data.length d], .agg (resL r (.slice M r.mem.length m) (.slice U r.ws.length u)).toArray, .int .i64 pc, .int .i64 fuel] w fun e w' => e = .returned (.bool true) ∧ Below w.heap.size w w' := by
  have HF : Hid (fewB p.code.length p.data.length = true) := hfew
  have HRFEW : Hid ((decide (r.mem.length ≤ 1000) && decide (r.ws.length ≤ 200)) = true) := hrf
  have hrf2 := hrf
  rw [Bool.and_eq_true, decide_eq_true_iff, decide_eq_true_iff] at hrf2
  have HML : Hid (r.mem.length ≤ 140737488355328) := by show _ ≤ _; omega
  have HWL : Hid (r.ws.length ≤ 1000000000000) := by show _ ≤ _; omega
  clear hfew hrf hrf2
  obtain ⟨X1, hX1⟩ : ∃ x, x = (stepZ p r pc).1 := ⟨_, rfl⟩
  obtain ⟨X2, hX2⟩ : ∃ x, x = (stepZ p r pc).2 := ⟨_, rfl⟩
  have HX1 := Lib.hid hX1
  have HX2 := Lib.hid hX2
  have HMX : Hid (∀ b ∈ X1.mem, 0 ≤ b ∧ b ≤ 255) := by rw [hX1]; exact stepZ_mem fr.2.2.2.2.2.2.1 pc
  clear hX1 hX2
  obtain ⟨u1, u2⟩ := hp.code.cap
  obtain ⟨u3, u4⟩ := hp.data.cap
  obtain ⟨u5, u6⟩ := hr.mem.cap
  obtain ⟨u7, u8⟩ := hr.ws.cap
  have h16 := hr.regs
  have hs : ((w.alloc (.cells #[.slice A p.code.length c, .int .i64 p.size, .slice D p.data.length d] 25)).alloc (.cells (resL r (.slice M r.mem.length m) (.slice U r.ws.length u)).toArray 32)).heap.size = w.heap.size + 2 := by simp
  have HB := Lib.hid (((Below.refl w.heap.size w).alloc (Nat.le_refl _) (.cells #[.slice A p.code.length c, .int .i64 p.size, .slice D p.data.length d] 25)).alloc (by simp) (.cells (resL r (.slice M r.mem.length m) (.slice U r.ws.length u)).toArray 32))
  have HP0 := Lib.hid (fun (x : World) (h : Below w.heap.size w x) => (hp.below h).more h.size)
  have HV0 := Lib.hid (fun (x : World) (h : Below w.heap.size w x) => (hr.below h).more h.size)
  have e0 : ((w.alloc (.cells #[.slice A p.code.length c, .int .i64 p.size, .slice D p.data.length d] 25)).alloc (.cells (resL r (.slice M r.mem.length m) (.slice U r.ws.length u)).toArray 32)).cell? ⟨w.heap.size, 0, none⟩ = some (.slice A p.code.length c) := by go_simp
  have e1 : ((w.alloc (.cells #[.slice A p.code.length c, .int .i64 p.size, .slice D p.data.length d] 25)).alloc (.cells (resL r (.slice M r.mem.length m) (.slice U r.ws.length u)).toArray 32)).cell? ⟨w.heap.size, 1, none⟩ = some (.int .i64 p.size) := by go_simp
  have e2 : ((w.alloc (.cells #[.slice A p.code.length c, .int .i64 p.size, .slice D p.data.length d] 25)).alloc (.cells (resL r (.slice M r.mem.length m) (.slice U r.ws.length u)).toArray 32)).cell? ⟨w.heap.size, 2, none⟩ = some (.slice D p.data.length d) := by go_simp
  have B0 : Hid (Box ((w.alloc (.cells #[.slice A p.code.length c, .int .i64 p.size, .slice D p.data.length d] 25)).alloc (.cells (resL r (.slice M r.mem.length m) (.slice U r.ws.length u)).toArray 32)) (w.heap.size + 1) (resL r (.slice M r.mem.length m) (.slice U r.ws.length u))) := by
    have := Box.new (w.alloc (.cells #[.slice A p.code.length c, .int .i64 p.size, .slice D p.data.length d] 25)) (resL r (.slice M r.mem.length m) (.slice U r.ws.length u)) 32
    have e : (w.alloc (.cells #[.slice A p.code.length c, .int .i64 p.size, .slice D p.data.length d] 25)).heap.size = w.heap.size + 1 := by simp
    rw [e] at this
    exact this
  have HD := Lib.hid hf.2.2
  have FR := Lib.hid fr
  clear hp hf hr fr
  go_enter Try.func3, Try.ntmps3
  go_wp2_with fail
  generalize ((w.alloc (.cells #[.slice A p.code.length c, .int .i64 p.size, .slice D p.data.length d] 25)).alloc (.cells (resL r (.slice M r.mem.length m) (.slice U r.ws.length u)).toArray 32)) = W0 at *
  have EF := Lib.hid (fun (x : World) (h : Below (w.heap.size + 2) W0 x) => And.intro (below_cell h (by omega) e0) (And.intro (below_cell h (by omega) e1) (below_cell h (by omega) e2)))
  have HL := Lib.hid (fun (x : World) (h : Below (w.heap.size + 2) W0 x) => HB.out.trans (h.mono (by omega)))
  have BF := Lib.hid (fun (x : World) (h : Below (w.heap.size + 2) W0 x) => B0.out.below h (by omega))
  clear e0 e1 e2
  refine (seqAlive_any _).mono ?_; rintro e w1 ⟨rfl, hb1⟩
  have k1 : Below (w.heap.size + 2) W0 w1 := hs ▸ hb1
  obtain ⟨e0, e1, e2⟩ := EF.out _ k1
  clear hb1
  go_wp2_with fail
  refine (few_any A D p.code.length c p.data.length d p.size _ (by omega) (by omega)).mono ?_; rintro e w2 ⟨rfl, hb2⟩
  rw [HF.out]
  have k2 := k1.trans (hb2.mono (by have := k1.size; omega))
  clear hb2 e0 e1 e2 k1
  obtain ⟨e0, e1, e2⟩ := EF.out _ k2
  have hzd : decide (1000 < p.size) = false := decide_eq_false (by omega)
  go_wp2_with (refine wpList_load_box rfl 32 (.tmp 5) rfl (w.heap.size + 1) 0 rfl (resL r (.slice M r.mem.length m) (.slice U r.ws.length u)) (resL r (.slice M r.mem.length m) (.slice U r.ws.length u)) (BF.out _ k2) (fun j v hv => by rw [Nat.zero_add]; exact hv) _ Try.underlying32 rfl 23 info_res (resL_len h16) ?_)
  refine (seqFew_any M U m u r _ h16 (by omega) (by omega)).mono ?_; rintro e w3 ⟨rfl, hb3⟩
  rw [HRFEW.out]
  have k3 := k2.trans (hb3.mono (by have := k2.size; omega))
  clear hb3 e0 e1 e2 k2
  obtain ⟨e0, e1, e2⟩ := EF.out _ k3
  have Hw3 := Lib.hid k3
  clear k3
  go_wp2_with fail
  have hs3 : w.heap.size + 2 ≤ w3.heap.size := by have := Hw3.out.size; omega
  have Hw3d : Hid (Below (w.heap.size + 2) W0 w3.drew) := Hw3.out.drew
  have hS : w3.drew.cell? ⟨w.heap.size, 0, none⟩ = some (.slice A p.code.length c) ∧ w3.drew.cell? ⟨w.heap.size, 1, none⟩ = some (.int .i64 p.size) ∧ w3.drew.cell? ⟨w.heap.size, 2, none⟩ = some (.slice D p.data.length d) ∧ Box w3.drew (w.heap.size + 1) (resL r (.slice M r.mem.length m) (.slice U r.ws.length u)) := ⟨e0, e1, e2, BF.out _ Hw3d.out⟩
  refine wp_region_tree _ (LinT.of [(0, true), (1, true), (3, true)] (.two 2 8 (LinT.of [] (.two 4 8 (LinT.of [(5, true), (6, true), (7, true), (8, false), (9, false), (10, true)] .nil) (LinT.of [(4, false), (5, true), (6, true), (7, true), (9, false), (10, true)] .nil))) (LinT.of [(2, false), (4, false), (5, true), (6, true), (7, true), (9, false), (10, true)] .nil))) (by kernel_rfl) (by kernel_rfl) rfl (by kernel_rfl) (fun x => x.cell? ⟨w.heap.size, 0, none⟩ = some (.slice A p.code.length c) ∧ x.cell? ⟨w.heap.size, 1, none⟩ = some (.int .i64 p.size) ∧ x.cell? ⟨w.heap.size, 2, none⟩ = some (.slice D p.data.length d) ∧ Box x (w.heap.size + 1) (resL r (.slice M r.mem.length m) (.slice U r.ws.length u))) (fun _ _ h => h) ?_
  simp only [LinT.of, LinT.look, List.getElem?_toArray, List.getElem?_cons_succ, List.getElem?_cons_zero]
  (refine tree_take (v := ?_) hS (by rfl) ?_ ?_; rotate_left; (intro x hx; obtain ⟨x0, x1, x2, x3⟩ := hx; clear x3; go_simp; try (with_reducible rfl)); (simp only [Act.put, List.setIfInBounds_toArray, List.set_cons_zero, List.set_cons_succ]))
  refine tree_load_box hS (by rfl) 32 (.tmp 5) rfl (w.heap.size + 1) 0 rfl (resL r (.slice M r.mem.length m) (.slice U r.ws.length u)) (resL r (.slice M r.mem.length m) (.slice U r.ws.length u)) (fun y hy => hy.2.2.2) (fun j v hv => by rw [Nat.zero_add]; exact hv) _ Try.underlying32 rfl 23 info_res (resL_len h16) ?_
  simp only [Act.put, List.setIfInBounds_toArray, List.set_cons_zero, List.set_cons_succ]
  (refine tree_take (v := ?_) hS (by rfl) ?_ ?_; rotate_left; (intro x hx; obtain ⟨x0, x1, x2, x3⟩ := hx; clear x3; go_simp; try (with_reducible rfl)); (simp only [Act.put, List.setIfInBounds_toArray, List.set_cons_zero, List.set_cons_succ]))
  clear e0 e1 e2
  refine tree_two hS (by rfl) (by rfl) (fun K hK => ?_) (fun K hK => ?_)
  · go_simp
    refine (refCopy_any r (.slice M r.mem.length m) (.slice U r.ws.length u) w3.drew (HV0.out _ (HL.out _ Hw3d.out)) HML.out HWL.out).mono ?_
    rintro e w4 ⟨vm1, vw1, rfl, hO1, hb1⟩
    have Hw4 := Lib.hid (Hw3d.out.trans (hb1.mono (by have := Hw3d.out.size; omega)))
    obtain ⟨M1, m1, rfl⟩ := (Row.of_own hO1.mem).form
    obtain ⟨U1, ux1, rfl⟩ := (Row.of_own hO1.ws).form
    have VC1 := Lib.hid hO1
    clear hO1 hb1 hS
    have hS : w4.cell? ⟨w.heap.size, 0, none⟩ = some (.slice A p.code.length c) ∧ w4.cell? ⟨w.heap.size, 1, none⟩ = some (.int .i64 p.size) ∧ w4.cell? ⟨w.heap.size, 2, none⟩ = some (.slice D p.data.length d) ∧ Box w4 (w.heap.size + 1) (resL r (.slice M r.mem.length m) (.slice U r.ws.length u)) := ⟨(EF.out _ Hw4.out).1, (EF.out _ Hw4.out).2.1, (EF.out _ Hw4.out).2.2, BF.out _ Hw4.out⟩
    go_wp2_with fail
    refine hK.out _ _ hS (fun _ => ?_)
    clear hK K
    try simp only [Act.put, List.setIfInBounds_toArray, List.set_cons_zero, List.set_cons_succ]
    refine tree_two hS (by rfl) (by rfl) (fun K hK => ?_) (fun K hK => ?_)
    · go_simp
      refine (seqStep_any A D c d p M1 U1 m1 ux1 r w4 pc (HP0.out _ (HL.out _ Hw4.out)) VC1.out.rows HML.out HWL.out FR.out).mono ?_
      rintro e w5 ⟨vmx, vwx, rfl, hOx, hbx⟩
      rw [← HX1.out] at hOx
      rw [← HX1.out, ← HX2.out]
      have Hw5 := Lib.hid (Hw4.out.trans (hbx.mono (by have := Hw4.out.size; omega)))
      obtain ⟨Mx, mx, rfl⟩ := (Row.of_own hOx.mem).form
      obtain ⟨Ux, uxx, rfl⟩ := (Row.of_own hOx.ws).form
      have OX := Lib.hid (hOx.base (show w.heap.size + 2 ≤ _ by have := Hw4.out.size; omega))
      have NX := Lib.hid hOx.regs
      clear hOx hbx hS
      have hS : w5.cell? ⟨w.heap.size, 0, none⟩ = some (.slice A p.code.length c) ∧ w5.cell? ⟨w.heap.size, 1, none⟩ = some (.int .i64 p.size) ∧ w5.cell? ⟨w.heap.size, 2, none⟩ = some (.slice D p.data.length d) ∧ Box w5 (w.heap.size + 1) (resL r (.slice M r.mem.length m) (.slice U r.ws.length u)) := ⟨(EF.out _ Hw5.out).1, (EF.out _ Hw5.out).2.1, (EF.out _ Hw5.out).2.2, BF.out _ Hw5.out⟩
      go_wp2_with fail
      refine hK.out _ _ hS (fun _ => ?_)
      clear hK K
      try simp only [Act.put, List.setIfInBounds_toArray, List.set_cons_zero, List.set_cons_succ]
      iterate 3 (refine tree_take (v := ?_) hS (by rfl) ?_ ?_; rotate_left; (intro x hx; obtain ⟨x0, x1, x2, x3⟩ := hx; clear x3; go_simp; try (with_reducible rfl)); (simp only [Act.put, List.setIfInBounds_toArray, List.set_cons_zero, List.set_cons_succ]))
      refine tree_call hS (by rfl) (fun K hK => ?_)
      have hxb : w.heap.size + 2 ≤ w5.heap.size := by have := Hw5.out.size; have := hs3; omega
      go_simp
      have Hw60 : Below (w.heap.size + 2) W0 ((w5.alloc (.cells #[.int .i64 0, .int .i64 0, .int .i64 0, .int .i64 0, .int .i64 0, .int .u32 0, .int .u32 0, .int .u32 0, .int .u32 0, .int .u32 0, .int .u32 0, .int .u32 0, .int .u32 0, .int .u32 0, .int .u32 0, .int .u32 0, .int .u32 0, .int .u32 0, .int .u32 0, .int .u32 0, .int .u32 0, .slice none 0 0, .slice none 0 0] 32))) := Hw5.out.alloc (by have := Hw5.out.size; omega) _
      have hSa : ((w5.alloc (.cells #[.int .i64 0, .int .i64 0, .int .i64 0, .int .i64 0, .int .i64 0, .int .u32 0, .int .u32 0, .int .u32 0, .int .u32 0, .int .u32 0, .int .u32 0, .int .u32 0, .int .u32 0, .int .u32 0, .int .u32 0, .int .u32 0, .int .u32 0, .int .u32 0, .int .u32 0, .int .u32 0, .int .u32 0, .slice none 0 0, .slice none 0 0] 32))).cell? ⟨w.heap.size, 0, none⟩ = some (.slice A p.code.length c) ∧ ((w5.alloc (.cells #[.int .i64 0, .int .i64 0, .int .i64 0, .int .i64 0, .int .i64 0, .int .u32 0, .int .u32 0, .int .u32 0, .int .u32 0, .int .u32 0, .int .u32 0, .int .u32 0, .int .u32 0, .int .u32 0, .int .u32 0, .int .u32 0, .int .u32 0, .int .u32 0, .int .u32 0, .int .u32 0, .int .u32 0, .slice none 0 0, .slice none 0 0] 32))).cell? ⟨w.heap.size, 1, none⟩ = some (.int .i64 p.size) ∧ ((w5.alloc (.cells #[.int .i64 0, .int .i64 0, .int .i64 0, .int .i64 0, .int .i64 0, .int .u32 0, .int .u32 0, .int .u32 0, .int .u32 0, .int .u32 0, .int .u32 0, .int .u32 0, .int .u32 0, .int .u32 0, .int .u32 0, .int .u32 0, .int .u32 0, .int .u32 0, .int .u32 0, .int .u32 0, .int .u32 0, .slice none 0 0, .slice none 0 0] 32))).cell? ⟨w.heap.size, 2, none⟩ = some (.slice D p.data.length d) ∧ Box ((w5.alloc (.cells #[.int .i64 0, .int .i64 0, .int .i64 0, .int .i64 0, .int .i64 0, .int .u32 0, .int .u32 0, .int .u32 0, .int .u32 0, .int .u32 0, .int .u32 0, .int .u32 0, .int .u32 0, .int .u32 0, .int .u32 0, .int .u32 0, .int .u32 0, .int .u32 0, .int .u32 0, .int .u32 0, .int .u32 0, .slice none 0 0, .slice none 0 0] 32))) (w.heap.size + 1) (resL r (.slice M r.mem.length m) (.slice U r.ws.length u)) := ⟨(EF.out _ Hw60).1, (EF.out _ Hw60).2.1, (EF.out _ Hw60).2.2, BF.out _ Hw60⟩
      refine hK.out _ _ hSa (fun _ => ?_)
      clear hK K
      try simp only [Act.put, List.setIfInBounds_toArray, List.set_cons_zero, List.set_cons_succ]
      have ZBw60 : Box ((w5.alloc (.cells #[.int .i64 0, .int .i64 0, .int .i64 0, .int .i64 0, .int .i64 0, .int .u32 0, .int .u32 0, .int .u32 0, .int .u32 0, .int .u32 0, .int .u32 0, .int .u32 0, .int .u32 0, .int .u32 0, .int .u32 0, .int .u32 0, .int .u32 0, .int .u32 0, .int .u32 0, .int .u32 0, .int .u32 0, .slice none 0 0, .slice none 0 0] 32))) w5.heap.size (resL noRes (.slice none 0 0) (.slice none 0 0)) := Box.new w5 (resL noRes (.slice none 0 0) (.slice none 0 0)) 32
      have OXa : ResOwn (w5.alloc (.cells #[.int .i64 0, .int .i64 0, .int .i64 0, .int .i64 0, .int .i64 0, .int .u32 0, .int .u32 0, .int .u32 0, .int .u32 0, .int .u32 0, .int .u32 0, .int .u32 0, .int .u32 0, .int .u32 0, .int .u32 0, .int .u32 0, .int .u32 0, .int .u32 0, .int .u32 0, .int .u32 0, .int .u32 0, .slice none 0 0, .slice none 0 0] 32)) (w.heap.size + 2) (.slice Mx X1.mem.length mx) (.slice Ux X1.ws.length uxx) X1 := ⟨OX.out.mem.alloc _, OX.out.ws.alloc _, NX.out⟩
      have AX : Hid (RowsApart w5.heap.size (.slice Mx X1.mem.length mx) (.slice Ux X1.ws.length uxx)) := ⟨fun e => by have := OX.out.mem.lt _ e; omega, fun e => by have := OX.out.ws.lt _ e; omega⟩
      clear OX
      clear hS
      generalize (w5.alloc (.cells #[.int .i64 0, .int .i64 0, .int .i64 0, .int .i64 0, .int .i64 0, .int .u32 0, .int .u32 0, .int .u32 0, .int .u32 0, .int .u32 0, .int .u32 0, .int .u32 0, .int .u32 0, .int .u32 0, .int .u32 0, .int .u32 0, .int .u32 0, .int .u32 0, .int .u32 0, .int .u32 0, .int .u32 0, .slice none 0 0, .slice none 0 0] 32)) = w6 at *
      have Hw6 := Lib.hid Hw60
      have ZBw6 := Lib.hid ZBw60
      have hS := hSa
      clear hSa Hw60 ZBw60
      have OX := Lib.hid OXa
      clear OXa
      refine tree_store_box hS (by rfl) 32 (.tmp 10) (.tmp 43) rfl w5.heap.size 0 (resL X1 (.slice Mx X1.mem.length mx) (.slice Ux X1.ws.length uxx)) rfl rfl (resL noRes (.slice none 0 0) (.slice none 0 0)) ZBw6.out (by rw [resL_len NX.out, resL_len rfl]; exact Nat.le_refl _) 23 info_res (resL_len NX.out) (resL_one rfl rfl) (fun w' h1 h2 => ?_) (fun w7 hBX hgX => ?_)
      · have hh : Below (w.heap.size + 2) W0 w' := Below.grown Hw6.out h2 (by have := Hw6.out.size; omega) (fun k hk => grown_ge hk (by omega))
        exact ⟨(EF.out _ hh).1, (EF.out _ hh).2.1, (EF.out _ hh).2.2, BF.out _ hh⟩
      rw [splice_whole _ _ (by rw [resL_len NX.out, resL_len rfl])] at hBX
      have Hw7 := Lib.hid (Below.grown Hw6.out hgX (by have := Hw6.out.size; omega) (fun k hk => grown_ge hk (by omega)))
      have BX := Lib.hid hBX
      have OX7 := Lib.hid (OX.out.grownA AX.out hgX)
      clear hS hBX hgX
      have hS : w7.cell? ⟨w.heap.size, 0, none⟩ = some (.slice A p.code.length c) ∧ w7.cell? ⟨w.heap.size, 1, none⟩ = some (.int .i64 p.size) ∧ w7.cell? ⟨w.heap.size, 2, none⟩ = some (.slice D p.data.length d) ∧ Box w7 (w.heap.size + 1) (resL r (.slice M r.mem.length m) (.slice U r.ws.length u)) := ⟨(EF.out _ Hw7.out).1, (EF.out _ Hw7.out).2.1, (EF.out _ Hw7.out).2.2, BF.out _ Hw7.out⟩
      simp only [Act.put]
      (refine tree_take (v := ?_) hS (by rfl) ?_ ?_; rotate_left; (intro x hx; obtain ⟨x0, x1, x2, x3⟩ := hx; clear x3; go_simp; try (with_reducible rfl)); (simp only [Act.put, List.setIfInBounds_toArray, List.set_cons_zero, List.set_cons_succ]))
      refine tree_done ?_
      clear hS
      obtain ⟨e0, e1, e2⟩ := EF.out _ Hw7.out
      go_wp2_with (refine wpList_load_box rfl 32 (.tmp 5) rfl (w.heap.size + 1) 0 rfl (resL r (.slice M r.mem.length m) (.slice U r.ws.length u)) (resL r (.slice M r.mem.length m) (.slice U r.ws.length u)) (BF.out _ Hw7.out) (fun j v hv => by rw [Nat.zero_add]; exact hv) _ Try.underlying32 rfl 23 info_res (resL_len h16) ?_)
      refine (refStep_any A D c d p M U m u r w7 pc (HP0.out _ (HL.out _ Hw7.out)) (HV0.out _ (HL.out _ Hw7.out)) HML.out HWL.out FR.out).mono ?_; rintro e w8 ⟨vy, uy, rfl, hOy, hby⟩
      rw [← HX1.out] at hOy
      rw [← HX1.out, ← HX2.out]
      obtain ⟨My, my, rfl⟩ := (Row.of_own hOy.mem).form
      obtain ⟨Uy, uyy, rfl⟩ := (Row.of_own hOy.ws).form
      have OY8 := Lib.hid hOy
      have Hw8 := Lib.hid (Hw7.out.trans (hby.mono (by have := Hw7.out.size; omega)))
      have BX8 := Lib.hid (BX.out.below hby BX.out.lt)
      have OX8 := Lib.hid (OX7.out.below hby)
      have hx8 : w5.heap.size < w8.heap.size := BX8.out.lt
      clear hOy hby e0 e1 e2
      go_wp2_with (refine wpList_store_box rfl 32 (.tmp 12) (.tmp 50) rfl w8.heap.size 0 (resL X1 (.slice My X1.mem.length my) (.slice Uy X1.ws.length uyy)) rfl rfl (resL noRes (.slice none 0 0) (.slice none 0 0)) (Box.new w8 (resL noRes (.slice none 0 0) (.slice none 0 0)) 32) (by rw [resL_len NX.out, resL_len rfl]; exact Nat.le_refl _) 23 info_res (resL_len NX.out) (resL_one rfl rfl) ?_; intro w9 hBY hg9; rw [splice_whole _ _ (by rw [resL_len NX.out, resL_len rfl])] at hBY; have BY9 := Lib.hid hBY; have hnx : some (w5.heap.size) ≠ some w8.heap.size := (fun h => (by injection h with h; omega)); have BX9 := Lib.hid ((BX8.out.alloc (.cells #[.int .i64 0, .int .i64 0, .int .i64 0, .int .i64 0, .int .i64 0, .int .u32 0, .int .u32 0, .int .u32 0, .int .u32 0, .int .u32 0, .int .u32 0, .int .u32 0, .int .u32 0, .int .u32 0, .int .u32 0, .int .u32 0, .int .u32 0, .int .u32 0, .int .u32 0, .int .u32 0, .int .u32 0, .slice none 0 0, .slice none 0 0] 32)).grown hg9 hnx); have LB9 := Lib.hid (Below.grown ((Below.refl w8.heap.size w8).alloc (Nat.le_refl _) (.cells #[.int .i64 0, .int .i64 0, .int .i64 0, .int .i64 0, .int .i64 0, .int .u32 0, .int .u32 0, .int .u32 0, .int .u32 0, .int .u32 0, .int .u32 0, .int .u32 0, .int .u32 0, .int .u32 0, .int .u32 0, .int .u32 0, .int .u32 0, .int .u32 0, .int .u32 0, .int .u32 0, .int .u32 0, .slice none 0 0, .slice none 0 0] 32)) hg9 (by simp) (fun k hk => grown_ge hk (Nat.le_refl _))); have Hw9 := Lib.hid (Hw8.out.trans (LB9.out.mono (by have := Hw8.out.size; omega))); have OX9 := Lib.hid (OX8.out.below LB9.out); have OY9 := Lib.hid (OY8.out.below LB9.out); clear hBY hg9 hnx)
      obtain ⟨e0, e1, e2⟩ := EF.out _ Hw9.out
      have Hw9d : Hid (Below (w.heap.size + 2) W0 w9.drew) := Hw9.out.drew
      have hS : w9.drew.cell? ⟨w.heap.size, 0, none⟩ = some (.slice A p.code.length c) ∧ w9.drew.cell? ⟨w.heap.size, 1, none⟩ = some (.int .i64 p.size) ∧ w9.drew.cell? ⟨w.heap.size, 2, none⟩ = some (.slice D p.data.length d) ∧ Box w9.drew (w5.heap.size) (resL X1 (.slice Mx X1.mem.length mx) (.slice Ux X1.ws.length uxx)) ∧ Box w9.drew w8.heap.size (resL X1 (.slice My X1.mem.length my) (.slice Uy X1.ws.length uyy)) := ⟨e0, e1, e2, BX9.out, BY9.out⟩
      clear e0 e1 e2
      refine wp_region_lin [(0, true), (1, true), (2, false), (3, true), (4, true), (5, true), (6, true), (7, true), (8, true), (9, true), (10, true), (12, true), (13, true), (11, false), (14, false), (15, false), (16, true), (17, true)]
        (by kernel_rfl) (by kernel_rfl) rfl (by kernel_rfl) (fun x => x.cell? ⟨w.heap.size, 0, none⟩ = some (.slice A p.code.length c) ∧ x.cell? ⟨w.heap.size, 1, none⟩ = some (.int .i64 p.size) ∧ x.cell? ⟨w.heap.size, 2, none⟩ = some (.slice D p.data.length d) ∧ Box x (w5.heap.size) (resL X1 (.slice Mx X1.mem.length mx) (.slice Ux X1.ws.length uxx)) ∧ Box x w8.heap.size (resL X1 (.slice My X1.mem.length my) (.slice Uy X1.ws.length uyy))) ?_
      simp only [List.map_cons, List.map_nil, List.getElem?_toArray, List.getElem?_cons_succ, List.getElem?_cons_zero]
      refine lin_load_box hS (by rfl) 32 (.tmp 10) rfl (w5.heap.size) 0 rfl (resL X1 (.slice Mx X1.mem.length mx) (.slice Ux X1.ws.length uxx)) (resL X1 (.slice Mx X1.mem.length mx) (.slice Ux X1.ws.length uxx)) (fun y hy => hy.2.2.2.1) (fun j v hv => by rw [Nat.zero_add]; exact hv) _ Try.underlying32 rfl 23 info_res (resL_len NX.out) ?_
      simp only [Act.put, List.setIfInBounds_toArray, List.set_cons_zero, List.set_cons_succ]
      refine lin_load_box hS (by rfl) 32 (.tmp 12) rfl w8.heap.size 0 rfl (resL X1 (.slice My X1.mem.length my) (.slice Uy X1.ws.length uyy)) (resL X1 (.slice My X1.mem.length my) (.slice Uy X1.ws.length uyy)) (fun y hy => hy.2.2.2.2) (fun j v hv => by rw [Nat.zero_add]; exact hv) _ Try.underlying32 rfl 23 info_res (resL_len NX.out) ?_
      simp only [Act.put, List.setIfInBounds_toArray, List.set_cons_zero, List.set_cons_succ]
      refine lin_call hS (by rfl) (fun K hK => ?_)
      go_simp
      refine (refSameRes_any X1 X1 Mx Ux My Uy mx uxx my uyy w9.drew (show ResV w9.drew w9.drew.heap.size _ _ X1 from ⟨OX9.out.rows.mem, OX9.out.rows.ws, NX.out⟩) (show ResV w9.drew w9.drew.heap.size _ _ X1 from ⟨OY9.out.rows.mem, OY9.out.rows.ws, NX.out⟩) HMX.out HMX.out).mono ?_
      rintro e w10 ⟨rfl, hb10⟩
      rw [(sameB_iff X1 X1).2 rfl]
      have Hw10 := Lib.hid (Hw9d.out.trans (hb10.mono (by have := Hw9d.out.size; omega)))
      have hSb : w10.cell? ⟨w.heap.size, 0, none⟩ = some (.slice A p.code.length c) ∧ w10.cell? ⟨w.heap.size, 1, none⟩ = some (.int .i64 p.size) ∧ w10.cell? ⟨w.heap.size, 2, none⟩ = some (.slice D p.data.length d) ∧ Box w10 (w5.heap.size) (resL X1 (.slice Mx X1.mem.length mx) (.slice Ux X1.ws.length uxx)) ∧ Box w10 w8.heap.size (resL X1 (.slice My X1.mem.length my) (.slice Uy X1.ws.length uyy)) := ⟨(EF.out _ Hw10.out).1, (EF.out _ Hw10.out).2.1, (EF.out _ Hw10.out).2.2, hS.2.2.2.1.below hb10 hS.2.2.2.1.lt, hS.2.2.2.2.below hb10 hS.2.2.2.2.lt⟩
      clear hS hb10
      have hS := hSb
      clear hSb
      go_wp2_with fail
      refine hK.out _ _ hS (fun _ => ?_)
      clear hK K
      try simp only [Act.put, List.setIfInBounds_toArray, List.set_cons_zero, List.set_cons_succ]
      iterate 10 (refine lin_take (v := ?_) hS (by rfl) ?_ ?_; rotate_left; (intro x hx; obtain ⟨x0, x1, x2, x3, x4⟩ := hx; clear x3 x4; go_simp; try (with_reducible rfl)); (simp only [Act.put, List.setIfInBounds_toArray, List.set_cons_zero, List.set_cons_succ]))
      refine lin_call hS (by rfl) (fun K hK => ?_)
      go_simp
      refine (seqRun_any A D c d p w10 fuel (HP0.out _ (HL.out _ Hw10.out)) HD.out (And.intro hfb (by omega))).mono ?_
      rintro e w11 ⟨va, ua, rfl, hOa, hb11⟩
      obtain ⟨Ma, ma, rfl⟩ := (Row.of_own hOa.mem).form
      obtain ⟨Ua, uaa, rfl⟩ := (Row.of_own hOa.ws).form
      have OA11 := Lib.hid hOa
      have Hw11 := Lib.hid (Hw10.out.trans (hb11.mono (by have := Hw10.out.size; omega)))
      have hSb : w11.cell? ⟨w.heap.size, 0, none⟩ = some (.slice A p.code.length c) ∧ w11.cell? ⟨w.heap.size, 1, none⟩ = some (.int .i64 p.size) ∧ w11.cell? ⟨w.heap.size, 2, none⟩ = some (.slice D p.data.length d) ∧ Box w11 (w5.heap.size) (resL X1 (.slice Mx X1.mem.length mx) (.slice Ux X1.ws.length uxx)) ∧ Box w11 w8.heap.size (resL X1 (.slice My X1.mem.length my) (.slice Uy X1.ws.length uyy)) := ⟨(EF.out _ Hw11.out).1, (EF.out _ Hw11.out).2.1, (EF.out _ Hw11.out).2.2, hS.2.2.2.1.below hb11 hS.2.2.2.1.lt, hS.2.2.2.2.below hb11 hS.2.2.2.2.lt⟩
      clear hS hb11
      have hS := hSb
      clear hSb
      clear hOa
      go_wp2_with fail
      refine hK.out _ _ hS (fun _ => ?_)
      clear hK K
      try simp only [Act.put, List.setIfInBounds_toArray, List.set_cons_zero, List.set_cons_succ]
      refine lin_call hS (by rfl) (fun K hK => ?_)
      go_simp
      refine (refRun_any A D c d p w11 fuel (HP0.out _ (HL.out _ Hw11.out)) HD.out).mono ?_
      rintro e w12 ⟨vb, ub, rfl, hOb, hb12⟩
      obtain ⟨Mb, mb, rfl⟩ := (Row.of_own hOb.mem).form
      obtain ⟨Ub, ubb, rfl⟩ := (Row.of_own hOb.ws).form
      have OB12 := Lib.hid hOb
      have OA12 := Lib.hid (OA11.out.below hb12)
      have Hw12 := Lib.hid (Hw11.out.trans (hb12.mono (by have := Hw11.out.size; omega)))
      have hSb : w12.cell? ⟨w.heap.size, 0, none⟩ = some (.slice A p.code.length c) ∧ w12.cell? ⟨w.heap.size, 1, none⟩ = some (.int .i64 p.size) ∧ w12.cell? ⟨w.heap.size, 2, none⟩ = some (.slice D p.data.length d) ∧ Box w12 (w5.heap.size) (resL X1 (.slice Mx X1.mem.length mx) (.slice Ux X1.ws.length uxx)) ∧ Box w12 w8.heap.size (resL X1 (.slice My X1.mem.length my) (.slice Uy X1.ws.length uyy)) := ⟨(EF.out _ Hw12.out).1, (EF.out _ Hw12.out).2.1, (EF.out _ Hw12.out).2.2, hS.2.2.2.1.below hb12 hS.2.2.2.1.lt, hS.2.2.2.2.below hb12 hS.2.2.2.2.lt⟩
      clear hS hb12
      have hS := hSb
      clear hSb
      clear hOb
      go_wp2_with fail
      refine hK.out _ _ hS (fun _ => ?_)
      clear hK K
      try simp only [Act.put, List.setIfInBounds_toArray, List.set_cons_zero, List.set_cons_succ]
      refine lin_call hS (by rfl) (fun K hK => ?_)
      go_simp
      refine (refSameRes_any (runZ p fuel) (runZ p fuel) Ma Ua Mb Ub ma uaa mb ubb w12 OA12.out.rows OB12.out.rows (runZ_ok HD.out).2 (runZ_ok HD.out).2).mono ?_
      rintro e w13 ⟨rfl, hb13⟩
      rw [(sameB_iff (runZ p fuel) (runZ p fuel)).2 rfl]
      have Hw13 := Lib.hid (Hw12.out.trans (hb13.mono (by have := Hw12.out.size; omega)))
      have hSb : w13.cell? ⟨w.heap.size, 0, none⟩ = some (.slice A p.code.length c) ∧ w13.cell? ⟨w.heap.size, 1, none⟩ = some (.int .i64 p.size) ∧ w13.cell? ⟨w.heap.size, 2, none⟩ = some (.slice D p.data.length d) ∧ Box w13 (w5.heap.size) (resL X1 (.slice Mx X1.mem.length mx) (.slice Ux X1.ws.length uxx)) ∧ Box w13 w8.heap.size (resL X1 (.slice My X1.mem.length my) (.slice Uy X1.ws.length uyy)) := ⟨(EF.out _ Hw13.out).1, (EF.out _ Hw13.out).2.1, (EF.out _ Hw13.out).2.2, hS.2.2.2.1.below hb13 hS.2.2.2.1.lt, hS.2.2.2.2.below hb13 hS.2.2.2.2.lt⟩
      clear hS hb13
      have hS := hSb
      clear hSb
      go_wp2_with fail
      refine hK.out _ _ hS (fun _ => ?_)
      clear hK K
      try simp only [Act.put, List.setIfInBounds_toArray, List.set_cons_zero, List.set_cons_succ]
      iterate 2 (refine lin_take (v := ?_) hS (by rfl) ?_ ?_; rotate_left; (intro x hx; obtain ⟨x0, x1, x2, x3, x4⟩ := hx; clear x3 x4; go_simp; try (with_reducible rfl)); (simp only [Act.put, List.setIfInBounds_toArray, List.set_cons_zero, List.set_cons_succ]))
      refine lin_done ?_
      have HE := Lib.hid (HL.out _ Hw13.out)
      clear hS
      go_wp2_with fail
      go_ret
      exact ⟨rfl, HE.out⟩
    · have hxb : w.heap.size + 2 ≤ w4.heap.size := by have := Hw4.out.size; have := hs3; omega
      go_simp
      have Hw50 : Below (w.heap.size + 2) W0 ((w4.alloc (.cells #[.int .i64 0, .int .i64 0, .int .i64 0, .int .i64 0, .int .i64 0, .int .u32 0, .int .u32 0, .int .u32 0, .int .u32 0, .int .u32 0, .int .u32 0, .int .u32 0, .int .u32 0, .int .u32 0, .int .u32 0, .int .u32 0, .int .u32 0, .int .u32 0, .int .u32 0, .int .u32 0, .int .u32 0, .slice none 0 0, .slice none 0 0] 32))) := Hw4.out.alloc (by have := Hw4.out.size; omega) _
      have hSa : ((w4.alloc (.cells #[.int .i64 0, .int .i64 0, .int .i64 0, .int .i64 0, .int .i64 0, .int .u32 0, .int .u32 0, .int .u32 0, .int .u32 0, .int .u32 0, .int .u32 0, .int .u32 0, .int .u32 0, .int .u32 0, .int .u32 0, .int .u32 0, .int .u32 0, .int .u32 0, .int .u32 0, .int .u32 0, .int .u32 0, .slice none 0 0, .slice none 0 0] 32))).cell? ⟨w.heap.size, 0, none⟩ = some (.slice A p.code.length c) ∧ ((w4.alloc (.cells #[.int .i64 0, .int .i64 0, .int .i64 0, .int .i64 0, .int .i64 0, .int .u32 0, .int .u32 0, .int .u32 0, .int .u32 0, .int .u32 0, .int .u32 0, .int .u32 0, .int .u32 0, .int .u32 0, .int .u32 0, .int .u32 0, .int .u32 0, .int .u32 0, .int .u32 0, .int .u32 0, .int .u32 0, .slice none 0 0, .slice none 0 0] 32))).cell? ⟨w.heap.size, 1, none⟩ = some (.int .i64 p.size) ∧ ((w4.alloc (.cells #[.int .i64 0, .int .i64 0, .int .i64 0, .int .i64 0, .int .i64 0, .int .u32 0, .int .u32 0, .int .u32 0, .int .u32 0, .int .u32 0, .int .u32 0, .int .u32 0, .int .u32 0, .int .u32 0, .int .u32 0, .int .u32 0, .int .u32 0, .int .u32 0, .int .u32 0, .int .u32 0, .int .u32 0, .slice none 0 0, .slice none 0 0] 32))).cell? ⟨w.heap.size, 2, none⟩ = some (.slice D p.data.length d) ∧ Box ((w4.alloc (.cells #[.int .i64 0, .int .i64 0, .int .i64 0, .int .i64 0, .int .i64 0, .int .u32 0, .int .u32 0, .int .u32 0, .int .u32 0, .int .u32 0, .int .u32 0, .int .u32 0, .int .u32 0, .int .u32 0, .int .u32 0, .int .u32 0, .int .u32 0, .int .u32 0, .int .u32 0, .int .u32 0, .int .u32 0, .slice none 0 0, .slice none 0 0] 32))) (w.heap.size + 1) (resL r (.slice M r.mem.length m) (.slice U r.ws.length u)) := ⟨(EF.out _ Hw50).1, (EF.out _ Hw50).2.1, (EF.out _ Hw50).2.2, BF.out _ Hw50⟩
      refine hK.out _ _ hSa (fun _ => ?_)
      clear hK K
      try simp only [Act.put, List.setIfInBounds_toArray, List.set_cons_zero, List.set_cons_succ]
      have ZBw50 : Box ((w4.alloc (.cells #[.int .i64 0, .int .i64 0, .int .i64 0, .int .i64 0, .int .i64 0, .int .u32 0, .int .u32 0, .int .u32 0, .int .u32 0, .int .u32 0, .int .u32 0, .int .u32 0, .int .u32 0, .int .u32 0, .int .u32 0, .int .u32 0, .int .u32 0, .int .u32 0, .int .u32 0, .int .u32 0, .int .u32 0, .slice none 0 0, .slice none 0 0] 32))) w4.heap.size (resL noRes (.slice none 0 0) (.slice none 0 0)) := Box.new w4 (resL noRes (.slice none 0 0) (.slice none 0 0)) 32
      have VC1a : ResOwn (w4.alloc (.cells #[.int .i64 0, .int .i64 0, .int .i64 0, .int .i64 0, .int .i64 0, .int .u32 0, .int .u32 0, .int .u32 0, .int .u32 0, .int .u32 0, .int .u32 0, .int .u32 0, .int .u32 0, .int .u32 0, .int .u32 0, .int .u32 0, .int .u32 0, .int .u32 0, .int .u32 0, .int .u32 0, .int .u32 0, .slice none 0 0, .slice none 0 0] 32)) w3.drew.heap.size (.slice M1 r.mem.length m1) (.slice U1 r.ws.length ux1) r := ⟨VC1.out.mem.alloc _, VC1.out.ws.alloc _, h16⟩
      clear VC1
      clear hS
      generalize (w4.alloc (.cells #[.int .i64 0, .int .i64 0, .int .i64 0, .int .i64 0, .int .i64 0, .int .u32 0, .int .u32 0, .int .u32 0, .int .u32 0, .int .u32 0, .int .u32 0, .int .u32 0, .int .u32 0, .int .u32 0, .int .u32 0, .int .u32 0, .int .u32 0, .int .u32 0, .int .u32 0, .int .u32 0, .int .u32 0, .slice none 0 0, .slice none 0 0] 32)) = w5 at *
      have Hw5 := Lib.hid Hw50
      have ZBw5 := Lib.hid ZBw50
      have hS := hSa
      clear hSa Hw50 ZBw50
      have VC1 := Lib.hid VC1a
      clear VC1a
      refine tree_call hS (by rfl) (fun K hK => ?_)
      go_simp
      refine (seqStep_any A D c d p M1 U1 m1 ux1 r w5 pc (HP0.out _ (HL.out _ Hw5.out)) VC1.out.rows HML.out HWL.out FR.out).mono ?_
      rintro e w6 ⟨vmx, vwx, rfl, hOx, hbx⟩
      rw [← HX1.out] at hOx
      rw [← HX1.out, ← HX2.out]
      have Hw6 := Lib.hid (Hw5.out.trans (hbx.mono (by have := Hw5.out.size; omega)))
      obtain ⟨Mx, mx, rfl⟩ := (Row.of_own hOx.mem).form
      obtain ⟨Ux, uxx, rfl⟩ := (Row.of_own hOx.ws).form
      have OX := Lib.hid (hOx.base (show w.heap.size + 2 ≤ _ by have := Hw5.out.size; omega))
      have NX := Lib.hid hOx.regs
      have ZBw6 := Lib.hid (ZBw5.out.below hbx ZBw5.out.lt)
      have AX := Lib.hid (RowsApart.of hOx ZBw5.out.lt)
      clear hOx hbx hS
      have hS : w6.cell? ⟨w.heap.size, 0, none⟩ = some (.slice A p.code.length c) ∧ w6.cell? ⟨w.heap.size, 1, none⟩ = some (.int .i64 p.size) ∧ w6.cell? ⟨w.heap.size, 2, none⟩ = some (.slice D p.data.length d) ∧ Box w6 (w.heap.size + 1) (resL r (.slice M r.mem.length m) (.slice U r.ws.length u)) := ⟨(EF.out _ Hw6.out).1, (EF.out _ Hw6.out).2.1, (EF.out _ Hw6.out).2.2, BF.out _ Hw6.out⟩
      go_wp2_with fail
      refine hK.out _ _ hS (fun _ => ?_)
      clear hK K
      try simp only [Act.put, List.setIfInBounds_toArray, List.set_cons_zero, List.set_cons_succ]
      iterate 3 (refine tree_take (v := ?_) hS (by rfl) ?_ ?_; rotate_left; (intro x hx; obtain ⟨x0, x1, x2, x3⟩ := hx; clear x3; go_simp; try (with_reducible rfl)); (simp only [Act.put, List.setIfInBounds_toArray, List.set_cons_zero, List.set_cons_succ]))
      refine tree_store_box hS (by rfl) 32 (.tmp 10) (.tmp 43) rfl w4.heap.size 0 (resL X1 (.slice Mx X1.mem.length mx) (.slice Ux X1.ws.length uxx)) rfl rfl (resL noRes (.slice none 0 0) (.slice none 0 0)) ZBw6.out (by rw [resL_len NX.out, resL_len rfl]; exact Nat.le_refl _) 23 info_res (resL_len NX.out) (resL_one rfl rfl) (fun w' h1 h2 => ?_) (fun w7 hBX hgX => ?_)
      · have hh : Below (w.heap.size + 2) W0 w' := Below.grown Hw6.out h2 (by have := Hw6.out.size; omega) (fun k hk => grown_ge hk (by omega))
        exact ⟨(EF.out _ hh).1, (EF.out _ hh).2.1, (EF.out _ hh).2.2, BF.out _ hh⟩
      rw [splice_whole _ _ (by rw [resL_len NX.out, resL_len rfl])] at hBX
      have Hw7 := Lib.hid (Below.grown Hw6.out hgX (by have := Hw6.out.size; omega) (fun k hk => grown_ge hk (by omega)))
      have BX := Lib.hid hBX
      have OX7 := Lib.hid (OX.out.grownA AX.out hgX)
      clear hS hBX hgX
      have hS : w7.cell? ⟨w.heap.size, 0, none⟩ = some (.slice A p.code.length c) ∧ w7.cell? ⟨w.heap.size, 1, none⟩ = some (.int .i64 p.size) ∧ w7.cell? ⟨w.heap.size, 2, none⟩ = some (.slice D p.data.length d) ∧ Box w7 (w.heap.size + 1) (resL r (.slice M r.mem.length m) (.slice U r.ws.length u)) := ⟨(EF.out _ Hw7.out).1, (EF.out _ Hw7.out).2.1, (EF.out _ Hw7.out).2.2, BF.out _ Hw7.out⟩
      simp only [Act.put]
      (refine tree_take (v := ?_) hS (by rfl) ?_ ?_; rotate_left; (intro x hx; obtain ⟨x0, x1, x2, x3⟩ := hx; clear x3; go_simp; try (with_reducible rfl)); (simp only [Act.put, List.setIfInBounds_toArray, List.set_cons_zero, List.set_cons_succ]))
      refine tree_done ?_
      clear hS
      obtain ⟨e0, e1, e2⟩ := EF.out _ Hw7.out
      go_wp2_with (refine wpList_load_box rfl 32 (.tmp 5) rfl (w.heap.size + 1) 0 rfl (resL r (.slice M r.mem.length m) (.slice U r.ws.length u)) (resL r (.slice M r.mem.length m) (.slice U r.ws.length u)) (BF.out _ Hw7.out) (fun j v hv => by rw [Nat.zero_add]; exact hv) _ Try.underlying32 rfl 23 info_res (resL_len h16) ?_)
      refine (refStep_any A D c d p M U m u r w7 pc (HP0.out _ (HL.out _ Hw7.out)) (HV0.out _ (HL.out _ Hw7.out)) HML.out HWL.out FR.out).mono ?_; rintro e w8 ⟨vy, uy, rfl, hOy, hby⟩
      rw [← HX1.out] at hOy
      rw [← HX1.out, ← HX2.out]
      obtain ⟨My, my, rfl⟩ := (Row.of_own hOy.mem).form
      obtain ⟨Uy, uyy, rfl⟩ := (Row.of_own hOy.ws).form
      have OY8 := Lib.hid hOy
      have Hw8 := Lib.hid (Hw7.out.trans (hby.mono (by have := Hw7.out.size; omega)))
      have BX8 := Lib.hid (BX.out.below hby BX.out.lt)
      have OX8 := Lib.hid (OX7.out.below hby)
      have hx8 : w4.heap.size < w8.heap.size := BX8.out.lt
      clear hOy hby e0 e1 e2
      go_wp2_with (refine wpList_store_box rfl 32 (.tmp 12) (.tmp 50) rfl w8.heap.size 0 (resL X1 (.slice My X1.mem.length my) (.slice Uy X1.ws.length uyy)) rfl rfl (resL noRes (.slice none 0 0) (.slice none 0 0)) (Box.new w8 (resL noRes (.slice none 0 0) (.slice none 0 0)) 32) (by rw [resL_len NX.out, resL_len rfl]; exact Nat.le_refl _) 23 info_res (resL_len NX.out) (resL_one rfl rfl) ?_; intro w9 hBY hg9; rw [splice_whole _ _ (by rw [resL_len NX.out, resL_len rfl])] at hBY; have BY9 := Lib.hid hBY; have hnx : some (w4.heap.size) ≠ some w8.heap.size := (fun h => (by injection h with h; omega)); have BX9 := Lib.hid ((BX8.out.alloc (.cells #[.int .i64 0, .int .i64 0, .int .i64 0, .int .i64 0, .int .i64 0, .int .u32 0, .int .u32 0, .int .u32 0, .int .u32 0, .int .u32 0, .int .u32 0, .int .u32 0, .int .u32 0, .int .u32 0, .int .u32 0, .int .u32 0, .int .u32 0, .int .u32 0, .int .u32 0, .int .u32 0, .int .u32 0, .slice none 0 0, .slice none 0 0] 32)).grown hg9 hnx); have LB9 := Lib.hid (Below.grown ((Below.refl w8.heap.size w8).alloc (Nat.le_refl _) (.cells #[.int .i64 0, .int .i64 0, .int .i64 0, .int .i64 0, .int .i64 0, .int .u32 0, .int .u32 0, .int .u32 0, .int .u32 0, .int .u32 0, .int .u32 0, .int .u32 0, .int .u32 0, .int .u32 0, .int .u32 0, .int .u32 0, .int .u32 0, .int .u32 0, .int .u32 0, .int .u32 0, .int .u32 0, .slice none 0 0, .slice none 0 0] 32)) hg9 (by simp) (fun k hk => grown_ge hk (Nat.le_refl _))); have Hw9 := Lib.hid (Hw8.out.trans (LB9.out.mono (by have := Hw8.out.size; omega))); have OX9 := Lib.hid (OX8.out.below LB9.out); have OY9 := Lib.hid (OY8.out.below LB9.out); clear hBY hg9 hnx)
      obtain ⟨e0, e1, e2⟩ := EF.out _ Hw9.out
      have Hw9d : Hid (Below (w.heap.size + 2) W0 w9.drew) := Hw9.out.drew
      have hS : w9.drew.cell? ⟨w.heap.size, 0, none⟩ = some (.slice A p.code.length c) ∧ w9.drew.cell? ⟨w.heap.size, 1, none⟩ = some (.int .i64 p.size) ∧ w9.drew.cell? ⟨w.heap.size, 2, none⟩ = some (.slice D p.data.length d) ∧ Box w9.drew (w4.heap.size) (resL X1 (.slice Mx X1.mem.length mx) (.slice Ux X1.ws.length uxx)) ∧ Box w9.drew w8.heap.size (resL X1 (.slice My X1.mem.length my) (.slice Uy X1.ws.length uyy)) := ⟨e0, e1, e2, BX9.out, BY9.out⟩
      clear e0 e1 e2
      refine wp_region_lin [(0, true), (1, true), (2, false), (3, true), (4, true), (5, true), (6, true), (7, true), (8, true), (9, true), (10, true), (12, true), (13, true), (11, false), (14, false), (15, false), (16, true), (17, true)]
        (by kernel_rfl) (by kernel_rfl) rfl (by kernel_rfl) (fun x => x.cell? ⟨w.heap.size, 0, none⟩ = some (.slice A p.code.length c) ∧ x.cell? ⟨w.heap.size, 1, none⟩ = some (.int .i64 p.size) ∧ x.cell? ⟨w.heap.size, 2, none⟩ = some (.slice D p.data.length d) ∧ Box x (w4.heap.size) (resL X1 (.slice Mx X1.mem.length mx) (.slice Ux X1.ws.length uxx)) ∧ Box x w8.heap.size (resL X1 (.slice My X1.mem.length my) (.slice Uy X1.ws.length uyy))) ?_
      simp only [List.map_cons, List.map_nil, List.getElem?_toArray, List.getElem?_cons_succ, List.getElem?_cons_zero]
      refine lin_load_box hS (by rfl) 32 (.tmp 10) rfl (w4.heap.size) 0 rfl (resL X1 (.slice Mx X1.mem.length mx) (.slice Ux X1.ws.length uxx)) (resL X1 (.slice Mx X1.mem.length mx) (.slice Ux X1.ws.length uxx)) (fun y hy => hy.2.2.2.1) (fun j v hv => by rw [Nat.zero_add]; exact hv) _ Try.underlying32 rfl 23 info_res (resL_len NX.out) ?_
      simp only [Act.put, List.setIfInBounds_toArray, List.set_cons_zero, List.set_cons_succ]
      refine lin_load_box hS (by rfl) 32 (.tmp 12) rfl w8.heap.size 0 rfl (resL X1 (.slice My X1.mem.length my) (.slice Uy X1.ws.length uyy)) (resL X1 (.slice My X1.mem.length my) (.slice Uy X1.ws.length uyy)) (fun y hy => hy.2.2.2.2) (fun j v hv => by rw [Nat.zero_add]; exact hv) _ Try.underlying32 rfl 23 info_res (resL_len NX.out) ?_
      simp only [Act.put, List.setIfInBounds_toArray, List.set_cons_zero, List.set_cons_succ]
      refine lin_call hS (by rfl) (fun K hK => ?_)
      go_simp
      refine (refSameRes_any X1 X1 Mx Ux My Uy mx uxx my uyy w9.drew (show ResV w9.drew w9.drew.heap.size _ _ X1 from ⟨OX9.out.rows.mem, OX9.out.rows.ws, NX.out⟩) (show ResV w9.drew w9.drew.heap.size _ _ X1 from ⟨OY9.out.rows.mem, OY9.out.rows.ws, NX.out⟩) HMX.out HMX.out).mono ?_
      rintro e w10 ⟨rfl, hb10⟩
      rw [(sameB_iff X1 X1).2 rfl]
      have Hw10 := Lib.hid (Hw9d.out.trans (hb10.mono (by have := Hw9d.out.size; omega)))
      have hSb : w10.cell? ⟨w.heap.size, 0, none⟩ = some (.slice A p.code.length c) ∧ w10.cell? ⟨w.heap.size, 1, none⟩ = some (.int .i64 p.size) ∧ w10.cell? ⟨w.heap.size, 2, none⟩ = some (.slice D p.data.length d) ∧ Box w10 (w4.heap.size) (resL X1 (.slice Mx X1.mem.length mx) (.slice Ux X1.ws.length uxx)) ∧ Box w10 w8.heap.size (resL X1 (.slice My X1.mem.length my) (.slice Uy X1.ws.length uyy)) := ⟨(EF.out _ Hw10.out).1, (EF.out _ Hw10.out).2.1, (EF.out _ Hw10.out).2.2, hS.2.2.2.1.below hb10 hS.2.2.2.1.lt, hS.2.2.2.2.below hb10 hS.2.2.2.2.lt⟩
      clear hS hb10
      have hS := hSb
      clear hSb
      go_wp2_with fail
      refine hK.out _ _ hS (fun _ => ?_)
      clear hK K
      try simp only [Act.put, List.setIfInBounds_toArray, List.set_cons_zero, List.set_cons_succ]
      iterate 10 (refine lin_take (v := ?_) hS (by rfl) ?_ ?_; rotate_left; (intro x hx; obtain ⟨x0, x1, x2, x3, x4⟩ := hx; clear x3 x4; go_simp; try (with_reducible rfl)); (simp only [Act.put, List.setIfInBounds_toArray, List.set_cons_zero, List.set_cons_succ]))
      refine lin_call hS (by rfl) (fun K hK => ?_)
      go_simp
      refine (seqRun_any A D c d p w10 fuel (HP0.out _ (HL.out _ Hw10.out)) HD.out (And.intro hfb (by omega))).mono ?_
      rintro e w11 ⟨va, ua, rfl, hOa, hb11⟩
      obtain ⟨Ma, ma, rfl⟩ := (Row.of_own hOa.mem).form
      obtain ⟨Ua, uaa, rfl⟩ := (Row.of_own hOa.ws).form
      have OA11 := Lib.hid hOa
      have Hw11 := Lib.hid (Hw10.out.trans (hb11.mono (by have := Hw10.out.size; omega)))
      have hSb : w11.cell? ⟨w.heap.size, 0, none⟩ = some (.slice A p.code.length c) ∧ w11.cell? ⟨w.heap.size, 1, none⟩ = some (.int .i64 p.size) ∧ w11.cell? ⟨w.heap.size, 2, none⟩ = some (.slice D p.data.length d) ∧ Box w11 (w4.heap.size) (resL X1 (.slice Mx X1.mem.length mx) (.slice Ux X1.ws.length uxx)) ∧ Box w11 w8.heap.size (resL X1 (.slice My X1.mem.length my) (.slice Uy X1.ws.length uyy)) := ⟨(EF.out _ Hw11.out).1, (EF.out _ Hw11.out).2.1, (EF.out _ Hw11.out).2.2, hS.2.2.2.1.below hb11 hS.2.2.2.1.lt, hS.2.2.2.2.below hb11 hS.2.2.2.2.lt⟩
      clear hS hb11
      have hS := hSb
      clear hSb
      clear hOa
      go_wp2_with fail
      refine hK.out _ _ hS (fun _ => ?_)
      clear hK K
      try simp only [Act.put, List.setIfInBounds_toArray, List.set_cons_zero, List.set_cons_succ]
      refine lin_call hS (by rfl) (fun K hK => ?_)
      go_simp
      refine (refRun_any A D c d p w11 fuel (HP0.out _ (HL.out _ Hw11.out)) HD.out).mono ?_
      rintro e w12 ⟨vb, ub, rfl, hOb, hb12⟩
      obtain ⟨Mb, mb, rfl⟩ := (Row.of_own hOb.mem).form
      obtain ⟨Ub, ubb, rfl⟩ := (Row.of_own hOb.ws).form
      have OB12 := Lib.hid hOb
      have OA12 := Lib.hid (OA11.out.below hb12)
      have Hw12 := Lib.hid (Hw11.out.trans (hb12.mono (by have := Hw11.out.size; omega)))
      have hSb : w12.cell? ⟨w.heap.size, 0, none⟩ = some (.slice A p.code.length c) ∧ w12.cell? ⟨w.heap.size, 1, none⟩ = some (.int .i64 p.size) ∧ w12.cell? ⟨w.heap.size, 2, none⟩ = some (.slice D p.data.length d) ∧ Box w12 (w4.heap.size) (resL X1 (.slice Mx X1.mem.length mx) (.slice Ux X1.ws.length uxx)) ∧ Box w12 w8.heap.size (resL X1 (.slice My X1.mem.length my) (.slice Uy X1.ws.length uyy)) := ⟨(EF.out _ Hw12.out).1, (EF.out _ Hw12.out).2.1, (EF.out _ Hw12.out).2.2, hS.2.2.2.1.below hb12 hS.2.2.2.1.lt, hS.2.2.2.2.below hb12 hS.2.2.2.2.lt⟩
      clear hS hb12
      have hS := hSb
      clear hSb
      clear hOb
      go_wp2_with fail
      refine hK.out _ _ hS (fun _ => ?_)
      clear hK K
      try simp only [Act.put, List.setIfInBounds_toArray, List.set_cons_zero, List.set_cons_succ]
      refine lin_call hS (by rfl) (fun K hK => ?_)
      go_simp
      refine (refSameRes_any (runZ p fuel) (runZ p fuel) Ma Ua Mb Ub ma uaa mb ubb w12 OA12.out.rows OB12.out.rows (runZ_ok HD.out).2 (runZ_ok HD.out).2).mono ?_
      rintro e w13 ⟨rfl, hb13⟩
      rw [(sameB_iff (runZ p fuel) (runZ p fuel)).2 rfl]
      have Hw13 := Lib.hid (Hw12.out.trans (hb13.mono (by have := Hw12.out.size; omega)))
      have hSb : w13.cell? ⟨w.heap.size, 0, none⟩ = some (.slice A p.code.length c) ∧ w13.cell? ⟨w.heap.size, 1, none⟩ = some (.int .i64 p.size) ∧ w13.cell? ⟨w.heap.size, 2, none⟩ = some (.slice D p.data.length d) ∧ Box w13 (w4.heap.size) (resL X1 (.slice Mx X1.mem.length mx) (.slice Ux X1.ws.length uxx)) ∧ Box w13 w8.heap.size (resL X1 (.slice My X1.mem.length my) (.slice Uy X1.ws.length uyy)) := ⟨(EF.out _ Hw13.out).1, (EF.out _ Hw13.out).2.1, (EF.out _ Hw13.out).2.2, hS.2.2.2.1.below hb13 hS.2.2.2.1.lt, hS.2.2.2.2.below hb13 hS.2.2.2.2.lt⟩
      clear hS hb13
      have hS := hSb
      clear hSb
      go_wp2_with fail
      refine hK.out _ _ hS (fun _ => ?_)
      clear hK K
      try simp only [Act.put, List.setIfInBounds_toArray, List.set_cons_zero, List.set_cons_succ]
      iterate 2 (refine lin_take (v := ?_) hS (by rfl) ?_ ?_; rotate_left; (intro x hx; obtain ⟨x0, x1, x2, x3, x4⟩ := hx; clear x3 x4; go_simp; try (with_reducible rfl)); (simp only [Act.put, List.setIfInBounds_toArray, List.set_cons_zero, List.set_cons_succ]))
      refine lin_done ?_
      have HE := Lib.hid (HL.out _ Hw13.out)
      clear hS
      go_wp2_with fail
      go_ret
      exact ⟨rfl, HE.out⟩
  · have hxb : w.heap.size + 2 ≤ w3.heap.size := by have := Hw3d.out.size; have := hs3; omega
    go_simp
    have Hw40 : Below (w.heap.size + 2) W0 ((w3.alloc (.cells #[.int .i64 0, .int .i64 0, .int .i64 0, .int .i64 0, .int .i64 0, .int .u32 0, .int .u32 0, .int .u32 0, .int .u32 0, .int .u32 0, .int .u32 0, .int .u32 0, .int .u32 0, .int .u32 0, .int .u32 0, .int .u32 0, .int .u32 0, .int .u32 0, .int .u32 0, .int .u32 0, .int .u32 0, .slice none 0 0, .slice none 0 0] 32)).drew) := (Hw3.out.alloc (by have := Hw3.out.size; omega) _).drew
    have hSa : ((w3.alloc (.cells #[.int .i64 0, .int .i64 0, .int .i64 0, .int .i64 0, .int .i64 0, .int .u32 0, .int .u32 0, .int .u32 0, .int .u32 0, .int .u32 0, .int .u32 0, .int .u32 0, .int .u32 0, .int .u32 0, .int .u32 0, .int .u32 0, .int .u32 0, .int .u32 0, .int .u32 0, .int .u32 0, .int .u32 0, .slice none 0 0, .slice none 0 0] 32)).drew).cell? ⟨w.heap.size, 0, none⟩ = some (.slice A p.code.length c) ∧ ((w3.alloc (.cells #[.int .i64 0, .int .i64 0, .int .i64 0, .int .i64 0, .int .i64 0, .int .u32 0, .int .u32 0, .int .u32 0, .int .u32 0, .int .u32 0, .int .u32 0, .int .u32 0, .int .u32 0, .int .u32 0, .int .u32 0, .int .u32 0, .int .u32 0, .int .u32 0, .int .u32 0, .int .u32 0, .int .u32 0, .slice none 0 0, .slice none 0 0] 32)).drew).cell? ⟨w.heap.size, 1, none⟩ = some (.int .i64 p.size) ∧ ((w3.alloc (.cells #[.int .i64 0, .int .i64 0, .int .i64 0, .int .i64 0, .int .i64 0, .int .u32 0, .int .u32 0, .int .u32 0, .int .u32 0, .int .u32 0, .int .u32 0, .int .u32 0, .int .u32 0, .int .u32 0, .int .u32 0, .int .u32 0, .int .u32 0, .int .u32 0, .int .u32 0, .int .u32 0, .int .u32 0, .slice none 0 0, .slice none 0 0] 32)).drew).cell? ⟨w.heap.size, 2, none⟩ = some (.slice D p.data.length d) ∧ Box ((w3.alloc (.cells #[.int .i64 0, .int .i64 0, .int .i64 0, .int .i64 0, .int .i64 0, .int .u32 0, .int .u32 0, .int .u32 0, .int .u32 0, .int .u32 0, .int .u32 0, .int .u32 0, .int .u32 0, .int .u32 0, .int .u32 0, .int .u32 0, .int .u32 0, .int .u32 0, .int .u32 0, .int .u32 0, .int .u32 0, .slice none 0 0, .slice none 0 0] 32)).drew) (w.heap.size + 1) (resL r (.slice M r.mem.length m) (.slice U r.ws.length u)) := ⟨(EF.out _ Hw40).1, (EF.out _ Hw40).2.1, (EF.out _ Hw40).2.2, BF.out _ Hw40⟩
    refine hK.out _ _ hSa (fun _ => ?_)
    clear hK K
    try simp only [Act.put, List.setIfInBounds_toArray, List.set_cons_zero, List.set_cons_succ]
    have ZBw40 : Box ((w3.alloc (.cells #[.int .i64 0, .int .i64 0, .int .i64 0, .int .i64 0, .int .i64 0, .int .u32 0, .int .u32 0, .int .u32 0, .int .u32 0, .int .u32 0, .int .u32 0, .int .u32 0, .int .u32 0, .int .u32 0, .int .u32 0, .int .u32 0, .int .u32 0, .int .u32 0, .int .u32 0, .int .u32 0, .int .u32 0, .slice none 0 0, .slice none 0 0] 32)).drew) w3.heap.size (resL noRes (.slice none 0 0) (.slice none 0 0)) := Box.new w3 (resL noRes (.slice none 0 0) (.slice none 0 0)) 32
    clear hS
    generalize (w3.alloc (.cells #[.int .i64 0, .int .i64 0, .int .i64 0, .int .i64 0, .int .i64 0, .int .u32 0, .int .u32 0, .int .u32 0, .int .u32 0, .int .u32 0, .int .u32 0, .int .u32 0, .int .u32 0, .int .u32 0, .int .u32 0, .int .u32 0, .int .u32 0, .int .u32 0, .int .u32 0, .int .u32 0, .int .u32 0, .slice none 0 0, .slice none 0 0] 32)).drew = w4 at *
    have Hw4 := Lib.hid Hw40
    have ZBw4 := Lib.hid ZBw40
    have hS := hSa
    clear hSa Hw40 ZBw40
    refine tree_call hS (by rfl) (fun K hK => ?_)
    go_simp
    refine (refCopy_any r (.slice M r.mem.length m) (.slice U r.ws.length u) w4 (HV0.out _ (HL.out _ Hw4.out)) HML.out HWL.out).mono ?_
    rintro e w5 ⟨vm1, vw1, rfl, hO1, hb1⟩
    have Hw5 := Lib.hid (Hw4.out.trans (hb1.mono (by have := Hw4.out.size; omega)))
    obtain ⟨M1, m1, rfl⟩ := (Row.of_own hO1.mem).form
    obtain ⟨U1, ux1, rfl⟩ := (Row.of_own hO1.ws).form
    have VC1 := Lib.hid hO1
    have ZBw5 := Lib.hid (ZBw4.out.below hb1 ZBw4.out.lt)
    clear hO1 hb1 hS
    have hS : w5.cell? ⟨w.heap.size, 0, none⟩ = some (.slice A p.code.length c) ∧ w5.cell? ⟨w.heap.size, 1, none⟩ = some (.int .i64 p.size) ∧ w5.cell? ⟨w.heap.size, 2, none⟩ = some (.slice D p.data.length d) ∧ Box w5 (w.heap.size + 1) (resL r (.slice M r.mem.length m) (.slice U r.ws.length u)) := ⟨(EF.out _ Hw5.out).1, (EF.out _ Hw5.out).2.1, (EF.out _ Hw5.out).2.2, BF.out _ Hw5.out⟩
    go_wp2_with fail
    refine hK.out _ _ hS (fun _ => ?_)
    clear hK K
    try simp only [Act.put, List.setIfInBounds_toArray, List.set_cons_zero, List.set_cons_succ]
    refine tree_call hS (by rfl) (fun K hK => ?_)
    go_simp
    refine (seqStep_any A D c d p M1 U1 m1 ux1 r w5 pc (HP0.out _ (HL.out _ Hw5.out)) VC1.out.rows HML.out HWL.out FR.out).mono ?_
    rintro e w6 ⟨vmx, vwx, rfl, hOx, hbx⟩
    rw [← HX1.out] at hOx
    rw [← HX1.out, ← HX2.out]
    have Hw6 := Lib.hid (Hw5.out.trans (hbx.mono (by have := Hw5.out.size; omega)))
    obtain ⟨Mx, mx, rfl⟩ := (Row.of_own hOx.mem).form
    obtain ⟨Ux, uxx, rfl⟩ := (Row.of_own hOx.ws).form
    have OX := Lib.hid (hOx.base (show w.heap.size + 2 ≤ _ by have := Hw5.out.size; omega))
    have NX := Lib.hid hOx.regs
    have ZBw6 := Lib.hid (ZBw5.out.below hbx ZBw5.out.lt)
    have AX := Lib.hid (RowsApart.of hOx ZBw5.out.lt)
    clear hOx hbx hS
    have hS : w6.cell? ⟨w.heap.size, 0, none⟩ = some (.slice A p.code.length c) ∧ w6.cell? ⟨w.heap.size, 1, none⟩ = some (.int .i64 p.size) ∧ w6.cell? ⟨w.heap.size, 2, none⟩ = some (.slice D p.data.length d) ∧ Box w6 (w.heap.size + 1) (resL r (.slice M r.mem.length m) (.slice U r.ws.length u)) := ⟨(EF.out _ Hw6.out).1, (EF.out _ Hw6.out).2.1, (EF.out _ Hw6.out).2.2, BF.out _ Hw6.out⟩
    go_wp2_with fail
    refine hK.out _ _ hS (fun _ => ?_)
    clear hK K
    try simp only [Act.put, List.setIfInBounds_toArray, List.set_cons_zero, List.set_cons_succ]
    iterate 3 (refine tree_take (v := ?_) hS (by rfl) ?_ ?_; rotate_left; (intro x hx; obtain ⟨x0, x1, x2, x3⟩ := hx; clear x3; go_simp; try (with_reducible rfl)); (simp only [Act.put, List.setIfInBounds_toArray, List.set_cons_zero, List.set_cons_succ]))
    refine tree_store_box hS (by rfl) 32 (.tmp 10) (.tmp 43) rfl w3.heap.size 0 (resL X1 (.slice Mx X1.mem.length mx) (.slice Ux X1.ws.length uxx)) rfl rfl (resL noRes (.slice none 0 0) (.slice none 0 0)) ZBw6.out (by rw [resL_len NX.out, resL_len rfl]; exact Nat.le_refl _) 23 info_res (resL_len NX.out) (resL_one rfl rfl) (fun w' h1 h2 => ?_) (fun w7 hBX hgX => ?_)
    · have hh : Below (w.heap.size + 2) W0 w' := Below.grown Hw6.out h2 (by have := Hw6.out.size; omega) (fun k hk => grown_ge hk (by omega))
      exact ⟨(EF.out _ hh).1, (EF.out _ hh).2.1, (EF.out _ hh).2.2, BF.out _ hh⟩
    rw [splice_whole _ _ (by rw [resL_len NX.out, resL_len rfl])] at hBX
    have Hw7 := Lib.hid (Below.grown Hw6.out hgX (by have := Hw6.out.size; omega) (fun k hk => grown_ge hk (by omega)))
    have BX := Lib.hid hBX
    have OX7 := Lib.hid (OX.out.grownA AX.out hgX)
    clear hS hBX hgX
    have hS : w7.cell? ⟨w.heap.size, 0, none⟩ = some (.slice A p.code.length c) ∧ w7.cell? ⟨w.heap.size, 1, none⟩ = some (.int .i64 p.size) ∧ w7.cell? ⟨w.heap.size, 2, none⟩ = some (.slice D p.data.length d) ∧ Box w7 (w.heap.size + 1) (resL r (.slice M r.mem.length m) (.slice U r.ws.length u)) := ⟨(EF.out _ Hw7.out).1, (EF.out _ Hw7.out).2.1, (EF.out _ Hw7.out).2.2, BF.out _ Hw7.out⟩
    simp only [Act.put]
    (refine tree_take (v := ?_) hS (by rfl) ?_ ?_; rotate_left; (intro x hx; obtain ⟨x0, x1, x2, x3⟩ := hx; clear x3; go_simp; try (with_reducible rfl)); (simp only [Act.put, List.setIfInBounds_toArray, List.set_cons_zero, List.set_cons_succ]))
    refine tree_done ?_
    clear hS
    obtain ⟨e0, e1, e2⟩ := EF.out _ Hw7.out
    go_wp2_with (refine wpList_load_box rfl 32 (.tmp 5) rfl (w.heap.size + 1) 0 rfl (resL r (.slice M r.mem.length m) (.slice U r.ws.length u)) (resL r (.slice M r.mem.length m) (.slice U r.ws.length u)) (BF.out _ Hw7.out) (fun j v hv => by rw [Nat.zero_add]; exact hv) _ Try.underlying32 rfl 23 info_res (resL_len h16) ?_)
    refine (refStep_any A D c d p M U m u r w7 pc (HP0.out _ (HL.out _ Hw7.out)) (HV0.out _ (HL.out _ Hw7.out)) HML.out HWL.out FR.out).mono ?_; rintro e w8 ⟨vy, uy, rfl, hOy, hby⟩
    rw [← HX1.out] at hOy
    rw [← HX1.out, ← HX2.out]
    obtain ⟨My, my, rfl⟩ := (Row.of_own hOy.mem).form
    obtain ⟨Uy, uyy, rfl⟩ := (Row.of_own hOy.ws).form
    have OY8 := Lib.hid hOy
    have Hw8 := Lib.hid (Hw7.out.trans (hby.mono (by have := Hw7.out.size; omega)))
    have BX8 := Lib.hid (BX.out.below hby BX.out.lt)
    have OX8 := Lib.hid (OX7.out.below hby)
    have hx8 : w3.heap.size < w8.heap.size := BX8.out.lt
    clear hOy hby e0 e1 e2
    go_wp2_with (refine wpList_store_box rfl 32 (.tmp 12) (.tmp 50) rfl w8.heap.size 0 (resL X1 (.slice My X1.mem.length my) (.slice Uy X1.ws.length uyy)) rfl rfl (resL noRes (.slice none 0 0) (.slice none 0 0)) (Box.new w8 (resL noRes (.slice none 0 0) (.slice none 0 0)) 32) (by rw [resL_len NX.out, resL_len rfl]; exact Nat.le_refl _) 23 info_res (resL_len NX.out) (resL_one rfl rfl) ?_; intro w9 hBY hg9; rw [splice_whole _ _ (by rw [resL_len NX.out, resL_len rfl])] at hBY; have BY9 := Lib.hid hBY; have hnx : some (w3.heap.size) ≠ some w8.heap.size := (fun h => (by injection h with h; omega)); have BX9 := Lib.hid ((BX8.out.alloc (.cells #[.int .i64 0, .int .i64 0, .int .i64 0, .int .i64 0, .int .i64 0, .int .u32 0, .int .u32 0, .int .u32 0, .int .u32 0, .int .u32 0, .int .u32 0, .int .u32 0, .int .u32 0, .int .u32 0, .int .u32 0, .int .u32 0, .int .u32 0, .int .u32 0, .int .u32 0, .int .u32 0, .int .u32 0, .slice none 0 0, .slice none 0 0] 32)).grown hg9 hnx); have LB9 := Lib.hid (Below.grown ((Below.refl w8.heap.size w8).alloc (Nat.le_refl _) (.cells #[.int .i64 0, .int .i64 0, .int .i64 0, .int .i64 0, .int .i64 0, .int .u32 0, .int .u32 0, .int .u32 0, .int .u32 0, .int .u32 0, .int .u32 0, .int .u32 0, .int .u32 0, .int .u32 0, .int .u32 0, .int .u32 0, .int .u32 0, .int .u32 0, .int .u32 0, .int .u32 0, .int .u32 0, .slice none 0 0, .slice none 0 0] 32)) hg9 (by simp) (fun k hk => grown_ge hk (Nat.le_refl _))); have Hw9 := Lib.hid (Hw8.out.trans (LB9.out.mono (by have := Hw8.out.size; omega))); have OX9 := Lib.hid (OX8.out.below LB9.out); have OY9 := Lib.hid (OY8.out.below LB9.out); clear hBY hg9 hnx)
    obtain ⟨e0, e1, e2⟩ := EF.out _ Hw9.out
    have Hw9d : Hid (Below (w.heap.size + 2) W0 w9.drew) := Hw9.out.drew
    have hS : w9.drew.cell? ⟨w.heap.size, 0, none⟩ = some (.slice A p.code.length c) ∧ w9.drew.cell? ⟨w.heap.size, 1, none⟩ = some (.int .i64 p.size) ∧ w9.drew.cell? ⟨w.heap.size, 2, none⟩ = some (.slice D p.data.length d) ∧ Box w9.drew (w3.heap.size) (resL X1 (.slice Mx X1.mem.length mx) (.slice Ux X1.ws.length uxx)) ∧ Box w9.drew w8.heap.size (resL X1 (.slice My X1.mem.length my) (.slice Uy X1.ws.length uyy)) := ⟨e0, e1, e2, BX9.out, BY9.out⟩
    clear e0 e1 e2
    refine wp_region_lin [(0, true), (1, true), (2, false), (3, true), (4, true), (5, true), (6, true), (7, true), (8, true), (9, true), (10, true), (12, true), (13, true), (11, false), (14, false), (15, false), (16, true), (17, true)]
      (by kernel_rfl) (by kernel_rfl) rfl (by kernel_rfl) (fun x => x.cell? ⟨w.heap.size, 0, none⟩ = some (.slice A p.code.length c) ∧ x.cell? ⟨w.heap.size, 1, none⟩ = some (.int .i64 p.size) ∧ x.cell? ⟨w.heap.size, 2, none⟩ = some (.slice D p.data.length d) ∧ Box x (w3.heap.size) (resL X1 (.slice Mx X1.mem.length mx) (.slice Ux X1.ws.length uxx)) ∧ Box x w8.heap.size (resL X1 (.slice My X1.mem.length my) (.slice Uy X1.ws.length uyy))) ?_
    simp only [List.map_cons, List.map_nil, List.getElem?_toArray, List.getElem?_cons_succ, List.getElem?_cons_zero]
    refine lin_load_box hS (by rfl) 32 (.tmp 10) rfl (w3.heap.size) 0 rfl (resL X1 (.slice Mx X1.mem.length mx) (.slice Ux X1.ws.length uxx)) (resL X1 (.slice Mx X1.mem.length mx) (.slice Ux X1.ws.length uxx)) (fun y hy => hy.2.2.2.1) (fun j v hv => by rw [Nat.zero_add]; exact hv) _ Try.underlying32 rfl 23 info_res (resL_len NX.out) ?_
    simp only [Act.put, List.setIfInBounds_toArray, List.set_cons_zero, List.set_cons_succ]
    refine lin_load_box hS (by rfl) 32 (.tmp 12) rfl w8.heap.size 0 rfl (resL X1 (.slice My X1.mem.length my) (.slice Uy X1.ws.length uyy)) (resL X1 (.slice My X1.mem.length my) (.slice Uy X1.ws.length uyy)) (fun y hy => hy.2.2.2.2) (fun j v hv => by rw [Nat.zero_add]; exact hv) _ Try.underlying32 rfl 23 info_res (resL_len NX.out) ?_
    simp only [Act.put, List.setIfInBounds_toArray, List.set_cons_zero, List.set_cons_succ]
    refine lin_call hS (by rfl) (fun K hK => ?_)
    go_simp
    refine (refSameRes_any X1 X1 Mx Ux My Uy mx uxx my uyy w9.drew (show ResV w9.drew w9.drew.heap.size _ _ X1 from ⟨OX9.out.rows.mem, OX9.out.rows.ws, NX.out⟩) (show ResV w9.drew w9.drew.heap.size _ _ X1 from ⟨OY9.out.rows.mem, OY9.out.rows.ws, NX.out⟩) HMX.out HMX.out).mono ?_
    rintro e w10 ⟨rfl, hb10⟩
    rw [(sameB_iff X1 X1).2 rfl]
    have Hw10 := Lib.hid (Hw9d.out.trans (hb10.mono (by have := Hw9d.out.size; omega)))
    have hSb : w10.cell? ⟨w.heap.size, 0, none⟩ = some (.slice A p.code.length c) ∧ w10.cell? ⟨w.heap.size, 1, none⟩ = some (.int .i64 p.size) ∧ w10.cell? ⟨w.heap.size, 2, none⟩ = some (.slice D p.data.length d) ∧ Box w10 (w3.heap.size) (resL X1 (.slice Mx X1.mem.length mx) (.slice Ux X1.ws.length uxx)) ∧ Box w10 w8.heap.size (resL X1 (.slice My X1.mem.length my) (.slice Uy X1.ws.length uyy)) := ⟨(EF.out _ Hw10.out).1, (EF.out _ Hw10.out).2.1, (EF.out _ Hw10.out).2.2, hS.2.2.2.1.below hb10 hS.2.2.2.1.lt, hS.2.2.2.2.below hb10 hS.2.2.2.2.lt⟩
    clear hS hb10
    have hS := hSb
    clear hSb
    go_wp2_with fail
    refine hK.out _ _ hS (fun _ => ?_)
    clear hK K
    try simp only [Act.put, List.setIfInBounds_toArray, List.set_cons_zero, List.set_cons_succ]
    iterate 10 (refine lin_take (v := ?_) hS (by rfl) ?_ ?_; rotate_left; (intro x hx; obtain ⟨x0, x1, x2, x3, x4⟩ := hx; clear x3 x4; go_simp; try (with_reducible rfl)); (simp only [Act.put, List.setIfInBounds_toArray, List.set_cons_zero, List.set_cons_succ]))
    refine lin_call hS (by rfl) (fun K hK => ?_)
    go_simp
    refine (seqRun_any A D c d p w10 fuel (HP0.out _ (HL.out _ Hw10.out)) HD.out (And.intro hfb (by omega))).mono ?_
    rintro e w11 ⟨va, ua, rfl, hOa, hb11⟩
    obtain ⟨Ma, ma, rfl⟩ := (Row.of_own hOa.mem).form
    obtain ⟨Ua, uaa, rfl⟩ := (Row.of_own hOa.ws).form
    have OA11 := Lib.hid hOa
    have Hw11 := Lib.hid (Hw10.out.trans (hb11.mono (by have := Hw10.out.size; omega)))
    have hSb : w11.cell? ⟨w.heap.size, 0, none⟩ = some (.slice A p.code.length c) ∧ w11.cell? ⟨w.heap.size, 1, none⟩ = some (.int .i64 p.size) ∧ w11.cell? ⟨w.heap.size, 2, none⟩ = some (.slice D p.data.length d) ∧ Box w11 (w3.heap.size) (resL X1 (.slice Mx X1.mem.length mx) (.slice Ux X1.ws.length uxx)) ∧ Box w11 w8.heap.size (resL X1 (.slice My X1.mem.length my) (.slice Uy X1.ws.length uyy)) := ⟨(EF.out _ Hw11.out).1, (EF.out _ Hw11.out).2.1, (EF.out _ Hw11.out).2.2, hS.2.2.2.1.below hb11 hS.2.2.2.1.lt, hS.2.2.2.2.below hb11 hS.2.2.2.2.lt⟩
    clear hS hb11
    have hS := hSb
    clear hSb
    clear hOa
    go_wp2_with fail
    refine hK.out _ _ hS (fun _ => ?_)
    clear hK K
    try simp only [Act.put, List.setIfInBounds_toArray, List.set_cons_zero, List.set_cons_succ]
    refine lin_call hS (by rfl) (fun K hK => ?_)
    go_simp
    refine (refRun_any A D c d p w11 fuel (HP0.out _ (HL.out _ Hw11.out)) HD.out).mono ?_
    rintro e w12 ⟨vb, ub, rfl, hOb, hb12⟩
    obtain ⟨Mb, mb, rfl⟩ := (Row.of_own hOb.mem).form
    obtain ⟨Ub, ubb, rfl⟩ := (Row.of_own hOb.ws).form
    have OB12 := Lib.hid hOb
    have OA12 := Lib.hid (OA11.out.below hb12)
    have Hw12 := Lib.hid (Hw11.out.trans (hb12.mono (by have := Hw11.out.size; omega)))
    have hSb : w12.cell? ⟨w.heap.size, 0, none⟩ = some (.slice A p.code.length c) ∧ w12.cell? ⟨w.heap.size, 1, none⟩ = some (.int .i64 p.size) ∧ w12.cell? ⟨w.heap.size, 2, none⟩ = some (.slice D p.data.length d) ∧ Box w12 (w3.heap.size) (resL X1 (.slice Mx X1.mem.length mx) (.slice Ux X1.ws.length uxx)) ∧ Box w12 w8.heap.size (resL X1 (.slice My X1.mem.length my) (.slice Uy X1.ws.length uyy)) := ⟨(EF.out _ Hw12.out).1, (EF.out _ Hw12.out).2.1, (EF.out _ Hw12.out).2.2, hS.2.2.2.1.below hb12 hS.2.2.2.1.lt, hS.2.2.2.2.below hb12 hS.2.2.2.2.lt⟩
    clear hS hb12
    have hS := hSb
    clear hSb
    clear hOb
    go_wp2_with fail
    refine hK.out _ _ hS (fun _ => ?_)
    clear hK K
    try simp only [Act.put, List.setIfInBounds_toArray, List.set_cons_zero, List.set_cons_succ]
    refine lin_call hS (by rfl) (fun K hK => ?_)
    go_simp
    refine (refSameRes_any (runZ p fuel) (runZ p fuel) Ma Ua Mb Ub ma uaa mb ubb w12 OA12.out.rows OB12.out.rows (runZ_ok HD.out).2 (runZ_ok HD.out).2).mono ?_
    rintro e w13 ⟨rfl, hb13⟩
    rw [(sameB_iff (runZ p fuel) (runZ p fuel)).2 rfl]
    have Hw13 := Lib.hid (Hw12.out.trans (hb13.mono (by have := Hw12.out.size; omega)))
    have hSb : w13.cell? ⟨w.heap.size, 0, none⟩ = some (.slice A p.code.length c) ∧ w13.cell? ⟨w.heap.size, 1, none⟩ = some (.int .i64 p.size) ∧ w13.cell? ⟨w.heap.size, 2, none⟩ = some (.slice D p.data.length d) ∧ Box w13 (w3.heap.size) (resL X1 (.slice Mx X1.mem.length mx) (.slice Ux X1.ws.length uxx)) ∧ Box w13 w8.heap.size (resL X1 (.slice My X1.mem.length my) (.slice Uy X1.ws.length uyy)) := ⟨(EF.out _ Hw13.out).1, (EF.out _ Hw13.out).2.1, (EF.out _ Hw13.out).2.2, hS.2.2.2.1.below hb13 hS.2.2.2.1.lt, hS.2.2.2.2.below hb13 hS.2.2.2.2.lt⟩
    clear hS hb13
    have hS := hSb
    clear hSb
    go_wp2_with fail
    refine hK.out _ _ hS (fun _ => ?_)
    clear hK K
    try simp only [Act.put, List.setIfInBounds_toArray, List.set_cons_zero, List.set_cons_succ]
    iterate 2 (refine lin_take (v := ?_) hS (by rfl) ?_ ?_; rotate_left; (intro x hx; obtain ⟨x0, x1, x2, x3, x4⟩ := hx; clear x3 x4; go_simp; try (with_reducible rfl)); (simp only [Act.put, List.setIfInBounds_toArray, List.set_cons_zero, List.set_cons_succ]))
    refine lin_done ?_
    have HE := Lib.hid (HL.out _ Hw13.out)
    clear hS
    go_wp2_with fail
    go_ret
    exact ⟨rfl, HE.out⟩

theorem seqTells_walk (A0 : Option Addr) (c0 : Nat) (D0 : Option Addr) (e0 : Nat) (z0 : Prog) (M1 : Option Addr) (m1 : Nat) (U1 : Option Addr) (u1 : Nat) (z1 : Res) (a2 a3 : Int) (w : World) (f0 : z0.Fits) (r0 : ProgV w w.heap.size (.slice A0 z0.code.length c0) (.slice D0 z0.data.length e0) z0) (f1 : z1.Fits) (r1 : ResV w w.heap.size (.slice M1 z1.mem.length m1) (.slice U1 z1.ws.length u1) z1) (w2 : -9223372036854775808 ≤ a2 ∧ a2 ≤ 9223372036854775807) (w3 : -9223372036854775808 ≤ a3 ∧ a3 ≤ 9223372036854775807) :
    Calls Try.prog 3 #[.agg #[.slice A0 z0.code.length c0, .int .i64 z0.size, .slice D0 z0.data.length e0], .agg (resL z1 (.slice M1 z1.mem.length m1) (.slice U1 z1.ws.length u1)).toArray, .int .i64 a2, .int .i64 a3] w fun e w' => e = .returned (.bool true) ∧ Below w.heap.size w w' := by
  cases hfew : fewB z0.code.length z0.data.length
  · exact seqTells_few A0 D0 c0 e0 z0 M1 U1 m1 u1 z1 a2 a3 w r0 f0 r1 f1 hfew
  by_cases hz : z0.size ≤ 1000
  rotate_left
  · exact seqTells_size A0 D0 c0 e0 z0 M1 U1 m1 u1 z1 a2 a3 w r0 f0 r1 f1 hfew (by omega)
  cases hrf : (decide (z1.mem.length ≤ 1000) && decide (z1.ws.length ≤ 200))
  · exact seqTells_rfew A0 D0 c0 e0 z0 M1 U1 m1 u1 z1 a2 a3 w r0 f0 r1 f1 hfew hz hrf
  by_cases ho : 300 < a3
  · exact seqTells_far A0 D0 c0 e0 z0 M1 U1 m1 u1 z1 a2 a3 w r0 f0 r1 f1 hfew hz hrf ho
  · exact seqTells_in A0 D0 c0 e0 z0 M1 U1 m1 u1 z1 a2 a3 w r0 f0 r1 f1 hfew hz hrf (by omega) w3.1
end Go.Proofs.Ytjbobihiigeapaa.Words

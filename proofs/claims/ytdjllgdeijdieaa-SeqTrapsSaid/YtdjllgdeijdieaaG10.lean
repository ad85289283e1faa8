/- Several texts in one: Mach2, BytesAlive, RunMath, SeqRun, StrEq. -/
import Derived.Test.YtdjllgdeijdieaaG02
import Derived.Test.YtdjllgdeijdieaaG06
import Derived.Test.YtdjllgdeijdieaaG01
import Derived.Laws.Tables
import Derived.Test.YtdjllgdeijdieaaG05
import Derived.Test.YtdjllgdeijdieaaG03
import Derived.Test.YtdjllgdeijdieaaG09
import Derived.Test.YtdjllgdeijdieaaG00
import Derived.Lib.Bytes

/- Laws of no one program for regions that draw their order along a tree: variables of many cells; a struct that is built with a part of many cells. -/
namespace Go.Proofs.Ytdjllgdeijdieaa.Words
set_option maxRecDepth 100000
open Go.RowKit
set_option linter.unusedVariables false

section
variable {P : Program} {ops : Array Oper} {rest : LinO} {o : Oper} {a : Act} {Q : Exit → Act → World → Prop} {R : Act → World → Prop} {S : World → Prop} {w : World}
theorem tree_load_box (hS : S w) (hw : Region.wanted o (yielded ops a.tmps) = true) (ty : TypeId) (x : Operand) (ho : o.op = .load ty x)
    (b k : Nat) (hx : a.eval x = .pointer (some ⟨b, k, none⟩)) (l cs : List Value) (hb : ∀ y, S y → Box y b l) (hc : ∀ j v, cs[j]? = some v → l[k + j]? = some v) (d : TypeDesc)
    (hu : P.underlying ty = some d) (hd : d.isRow = true) (n : Nat) (hi : (P.info? ty).map (·.size) = some n) (hn : cs.length = n)
    (h : wpT P ops Q R rest S (a.put o.dst (.agg cs.toArray)) w) : wpT P ops Q R (.one (some o) true rest) S a w :=
  ⟨S, fun _ h => h, hS, _, yieldsIf_load_mid hw ty x ho b k hx cs d (fun y hy => (hb y hy).range hc) hu hd (by rw [hn]; exact hi), h⟩
theorem tree_store_mbox (hS : S w) (hw : Region.wanted o (yielded ops a.tmps) = true) (ty : TypeId) (x y : Operand) (ho : o.op = .store ty x y)
    (b k : Nat) (cs : List Value) (hx : a.eval x = .pointer (some ⟨b, k, none⟩)) (hy : a.eval y = .agg cs.toArray) (l : List Value) (hb : MBox w b l) (hl : k + cs.length ≤ l.length)
    (n : Nat) (hi : (P.info? ty).map (·.size) = some n) (hn : cs.length = n) (h1 : ∀ v ∈ cs, v.oneCell' = true)
    (hT : ∀ w', MBox w' b (splice l k cs) → w.grownBy w' (some b) → S w')
    (h : ∀ w', MBox w' b (splice l k cs) → w.grownBy w' (some b) → wpT P ops Q R rest S (a.put o.dst undef) w') : wpT P ops Q R (.one (some o) false rest) S a w :=
  tree_call hS hw fun K hK => wp_store_mid ty x y ho b k cs.toArray hx hy (hb.box.there (by simpa using hl)) (by rw [hi]; simp [hn]) (all_oneCell_toArray h1) (hK.out _ _
    (hT _ (by simpa using hb.setCells hl) (by simpa using grown_setCells w b cs k hb.lt)) fun _ => h _ (by simpa using hb.setCells hl) (by simpa using grown_setCells w b cs k hb.lt))
theorem exec_build (t : TypeId) (parts : Array (Nat × Operand)) (ho : o.op = .build t parts) (cells : Array Value) (hb : P.built t (parts.map fun (i, x) => (i, a.eval x)).toList = some cells) (x : World) :
    (execOp a.eval o).run P x = .ok (.value (.agg cells)) x := by
  unfold execOp
  simp only [ho]
  have := run_build x t (parts.map fun (i, y) => (i, a.eval y)) cells hb
  simp only [Sem.run_bind, this, Result.andThen_ok, Sem.run_pure]
end
theorem machine_built_aux (A : Option Addr) (n c : Nat) (pc : Int) (a0 a1 a2 a3 a4 a5 a6 a7 a8 a9 a10 a11 a12 a13 a14 a15 a16 a17 a18 a19 a20 a21 a22 : Value) :
    Try.prog.built 59 [(0, .slice A n c), (1, .agg [a0, a1, a2, a3, a4, a5, a6, a7, a8, a9, a10, a11, a12, a13, a14, a15, a16, a17, a18, a19, a20, a21, a22].toArray), (2, .int .i64 pc)] = some (machL (.slice A n c) [a0, a1, a2, a3, a4, a5, a6, a7, a8, a9, a10, a11, a12, a13, a14, a15, a16, a17, a18, a19, a20, a21, a22] pc).toArray := by kernel_rfl
theorem machine_built0_aux (A : Option Addr) (n c : Nat) (a0 a1 a2 a3 a4 a5 a6 a7 a8 a9 a10 a11 a12 a13 a14 a15 a16 a17 a18 a19 a20 a21 a22 : Value) :
    Try.prog.built 59 [(0, .slice A n c), (1, .agg [a0, a1, a2, a3, a4, a5, a6, a7, a8, a9, a10, a11, a12, a13, a14, a15, a16, a17, a18, a19, a20, a21, a22].toArray)] = some (machL (.slice A n c) [a0, a1, a2, a3, a4, a5, a6, a7, a8, a9, a10, a11, a12, a13, a14, a15, a16, a17, a18, a19, a20, a21, a22] 0).toArray := by kernel_rfl
theorem machine_built (A : Option Addr) (n c : Nat) (L : List Value) (pc : Int) (h : L.length = 23) :
    Try.prog.built 59 [(0, .slice A n c), (1, .agg L.toArray), (2, .int .i64 pc)] = some (machL (.slice A n c) L pc).toArray := by
  match L, h with
  | [a0, a1, a2, a3, a4, a5, a6, a7, a8, a9, a10, a11, a12, a13, a14, a15, a16, a17, a18, a19, a20, a21, a22], _ => exact machine_built_aux A n c pc a0 a1 a2 a3 a4 a5 a6 a7 a8 a9 a10 a11 a12 a13 a14 a15 a16 a17 a18 a19 a20 a21 a22
theorem machine_built0 (A : Option Addr) (n c : Nat) (L : List Value) (h : L.length = 23) :
    Try.prog.built 59 [(0, .slice A n c), (1, .agg L.toArray)] = some (machL (.slice A n c) L 0).toArray := by
  match L, h with
  | [a0, a1, a2, a3, a4, a5, a6, a7, a8, a9, a10, a11, a12, a13, a14, a15, a16, a17, a18, a19, a20, a21, a22], _ => exact machine_built0_aux A n c a0 a1 a2 a3 a4 a5 a6 a7 a8 a9 a10 a11 a12 a13 a14 a15 a16 a17 a18 a19 a20 a21 a22
theorem result_built (A : Option Addr) (n c : Nat) : Try.prog.built 34 [(4, .slice A n c)] = some (resL noRes (.slice A n c) (.slice none 0 0)).toArray := by kernel_rfl
theorem info_mach : (Try.prog.info? 59).map (·.size) = some 25 := by kernel_rfl
end Go.Proofs.Ytdjllgdeijdieaa.Words

/- The law's own helper 'alive' of chapter 5. -/
namespace Go.Proofs.Ytdjllgdeijdieaa.Words
set_option maxRecDepth 100000
open Go.RowKit
set_option linter.unusedVariables false

theorem storeZ_bytes {zs : List Int} {size addr v : Int} (hz : ∀ x ∈ zs, 0 ≤ x ∧ x ≤ 255) : ∀ x ∈ storeZ zs size addr v, 0 ≤ x ∧ x ≤ 255 := by
  have one : ∀ (l : List Int) (k : Nat) (y : Int), (∀ x ∈ l, 0 ≤ x ∧ x ≤ 255) → (0 ≤ y ∧ y ≤ 255) → ∀ x ∈ l.set k y, 0 ≤ x ∧ x ≤ 255 := by
    intro l k y hl hy x hx
    rcases List.mem_or_eq_of_mem_set hx with h | rfl
    · exact hl x h
    · exact hy
  unfold storeZ
  split
  · split
    · exact one _ _ _ hz (by omega)
    · split
      · exact one _ _ _ (one _ _ _ hz (by omega)) (by omega)
      · exact one _ _ _ (one _ _ _ (one _ _ _ (one _ _ _ hz (by omega)) (by omega)) (by omega)) (by omega)
  · exact hz

end Go.Proofs.Ytdjllgdeijdieaa.Words

/- What a run of a program leaves, as plain mathematics: steps one behind the other, and what stays within its bounds. Nothing here speaks of one program text. -/
namespace Go.Proofs.Ytdjllgdeijdieaa.Words
set_option maxRecDepth 100000
open Go.RowKit
set_option linter.unusedVariables false

/-- Steps, one behind the other. -/
def stepsZ (p : Prog) : Nat → Res × Int → Res × Int
  | 0, x => x
  | n + 1, x => stepsZ p n (stepZ p x.1 x.2)
theorem stepsZ_succ (p : Prog) : ∀ (n : Nat) (x : Res × Int), stepsZ p (n + 1) x = stepZ p (stepsZ p n x).1 (stepsZ p n x).2
  | 0, x => rfl
  | n + 1, x => stepsZ_succ p n (stepZ p x.1 x.2)
theorem stepsZ_add (p : Prog) : ∀ (m n : Nat) (x : Res × Int), stepsZ p (m + n) x = stepsZ p n (stepsZ p m x)
  | 0, n, x => by rw [Nat.zero_add]; rfl
  | m + 1, n, x => by rw [Nat.add_right_comm]; exact stepsZ_add p m n (stepZ p x.1 x.2)
theorem stepsZ_end (p : Prog) : ∀ (n : Nat) (x : Res × Int), x.1.e ≠ 0 → stepsZ p n x = x
  | 0, x, _ => rfl
  | n + 1, x, h => by
    show stepsZ p n (stepZ p x.1 x.2) = x
    rw [stepZ_stay (.inl h)]
    exact stepsZ_end p n x h
/-- What a program begins with. -/
def startZ (p : Prog) : Res × Int := (⟨0, 0, 0, 0, 0, List.replicate 16 0, firstZ p, []⟩, 0)
/-- Out of fuel, if there is no end. -/
def fuelZ (r : Res) : Res := if r.e = 0 then { r with e := 3 } else r
/-- How many steps a run does at the most. -/
def clampZ (fuel : Int) : Nat := (if fuel < 0 then 0 else if 100000 < fuel then 100000 else fuel).toNat
/-- What a run leaves. -/
def runZ (p : Prog) (fuel : Int) : Res := if p.right = true then fuelZ (stepsZ p (clampZ fuel) (startZ p)).1 else ⟨0, 0, 0, 0, 0, List.replicate 16 0, [], []⟩

theorem doZ_range (i : Ins) (a b : Int) (ha : 0 ≤ a ∧ a ≤ 4294967295) (hb : 0 ≤ b ∧ b ≤ 4294967295) : 0 ≤ doZ i a b ∧ doZ i a b ≤ 4294967295 := by
  have h1 := threeZ_range i.op a b (by omega) (by omega)
  have h2 := threeZ_range (likeZ i.op) a (i.imm % 4294967296) (by omega) (by omega)
  unfold doZ
  repeat' split
  all_goals omega
theorem getD_byte {zs : List Int} (h : ∀ x ∈ zs, 0 ≤ x ∧ x ≤ 255) (k : Nat) : 0 ≤ zs.getD k 0 ∧ zs.getD k 0 ≤ 255 := by
  rw [List.getD_eq_getElem?_getD]
  rcases hx : zs[k]? with _ | x
  · simp
  · simpa using h x (List.mem_of_getElem? hx)
theorem loadZ_range {zs : List Int} (h : ∀ x ∈ zs, 0 ≤ x ∧ x ≤ 255) (op addr : Int) : 0 ≤ loadZ zs op addr ∧ loadZ zs op addr ≤ 4294967295 := by
  have b0 := getD_byte h addr.toNat
  have b1 := getD_byte h (addr.toNat + 1)
  have b2 := getD_byte h (addr.toNat + 2)
  have b3 := getD_byte h (addr.toNat + 3)
  unfold loadZ extendZ wordOf
  repeat' split
  all_goals omega
theorem maskZ_range {v : Int} (h : 0 ≤ v ∧ v ≤ 4294967295) (s : Int) : 0 ≤ maskZ v s ∧ maskZ v s ≤ 4294967295 := by
  unfold maskZ
  repeat' split
  all_goals omega

/-- What stays within its bounds, step by step. -/
structure RunOk (p : Prog) (k : Nat) (r : Res) : Prop where
  len : r.regs.length = 16
  regs : ∀ x ∈ r.regs, 0 ≤ x ∧ x ≤ 4294967295
  mem : ∀ x ∈ r.mem, 0 ≤ x ∧ x ≤ 255
  size : (r.mem.length : Int) = p.size
  ws : r.ws.length ≤ k
  fits : ∀ x ∈ r.ws, x.Fits
  st : 0 ≤ r.st ∧ r.st ≤ k
theorem setZ_range {regs : List Int} (h : ∀ x ∈ regs, 0 ≤ x ∧ x ≤ 4294967295) (k : Nat) {v : Int} (hv : 0 ≤ v ∧ v ≤ 4294967295) : ∀ x ∈ setZ regs k v, 0 ≤ x ∧ x ≤ 4294967295 := by
  intro x hx
  unfold setZ at hx
  split at hx
  · exact h x hx
  · rcases List.mem_or_eq_of_mem_set hx with h' | rfl
    · exact h x h'
    · exact hv
theorem RunOk.more {p : Prog} {k : Nat} {r : Res} (h : RunOk p k r) : RunOk p (k + 1) r := ⟨h.len, h.regs, h.mem, h.size, by have := h.ws; omega, h.fits, by have := h.st; omega⟩
theorem RunOk.trap {p : Prog} {k : Nat} {r : Res} (h : RunOk p k r) (a b : Int) : RunOk p (k + 1) (trapZ r a b) := ⟨h.len, h.regs, h.mem, h.size, by have := h.ws; show r.ws.length ≤ _; omega, h.fits, by have := h.st; show 0 ≤ r.st ∧ r.st ≤ _; omega⟩
theorem RunOk.bump {p : Prog} {k : Nat} {r : Res} (h : RunOk p k r) (hk : k ≤ 1000000) {r' : Res} (hl : r'.regs.length = 16) (hr : ∀ x ∈ r'.regs, 0 ≤ x ∧ x ≤ 4294967295) (hm : ∀ x ∈ r'.mem, 0 ≤ x ∧ x ≤ 255) (hs : r'.mem.length = r.mem.length) (hw : r'.ws.length ≤ r.ws.length + 1) (hf : ∀ x ∈ r'.ws, x.Fits) (ht : r'.st = r.st) : RunOk p (k + 1) (bumpZ r') := by
  have h1 := h.st
  have h2 := h.ws
  have h3 := h.size
  refine ⟨hl, hr, hm, by show (r'.mem.length : Int) = _; rw [hs]; exact h3, by show r'.ws.length ≤ _; omega, hf, ?_⟩
  show 0 ≤ wrap64 (r'.st + 1) ∧ wrap64 (r'.st + 1) ≤ _
  rw [ht, IntWalk.wrap64_in _ (by omega)]
  omega
theorem RunOk.step {p : Prog} {k : Nat} {r : Res} (h : RunOk p k r) (hk : k ≤ 1000000) (pc : Int) : RunOk p (k + 1) (stepZ p r pc).1 := by
  unfold stepZ
  split
  · exact h.more
  split
  · exact h.trap _ _
  generalize p.code.getD pc.toNat ⟨0, 0, 0, 0, 0⟩ = i
  have va := valZ_range h.regs i.a.toNat
  have vb := valZ_range h.regs i.b.toNat
  unfold insZ
  split
  · split
    · exact h.trap _ _
    · split
      · exact h.bump hk (by show (setZ _ _ _).length = 16; rw [setZ_len]; exact h.len) (setZ_range h.regs _ (loadZ_range h.mem _ _)) h.mem rfl (Nat.le_succ _) h.fits rfl
      · refine h.bump hk h.len h.regs (storeZ_bytes h.mem) (storeZ_len _ _ _ _) (by simp) ?_ rfl
        intro x hx
        rw [List.mem_append] at hx
        rcases hx with hx | hx
        · exact h.fits x hx
        · simp only [List.mem_cons, List.not_mem_nil, or_false] at hx
          subst hx
          have hm := maskZ_range vb (sizeZ i.op)
          have hs := sizeZ_cases i.op
          refine ⟨?_, ?_, hm⟩
          · show _ ≤ (_ : Int) % 4294967296 ∧ (_ : Int) % 4294967296 ≤ _
            omega
          · show _ ≤ sizeZ i.op ∧ sizeZ i.op ≤ _
            omega
  split
  · split
    · exact h.trap _ _
    · exact h.bump hk (by show (setZ _ _ _).length = 16; rw [setZ_len]; exact h.len) (setZ_range h.regs _ (doZ_range _ _ _ va vb)) h.mem rfl (Nat.le_succ _) h.fits rfl
  split
  · exact h.bump hk h.len h.regs h.mem rfl (Nat.le_succ _) h.fits rfl
  split
  · exact h.bump hk h.len h.regs h.mem rfl (Nat.le_succ _) h.fits rfl
  · exact h.bump hk h.len h.regs h.mem rfl (Nat.le_succ _) h.fits rfl
theorem RunOk.start {p : Prog} (hf : ∀ b ∈ p.data, 0 ≤ b ∧ b ≤ 255) (hs : 0 ≤ p.size) (hd : (p.data.length : Int) ≤ p.size) : RunOk p 0 (startZ p).1 := by
  refine ⟨rfl, ?_, firstZ_bytes p hf, ?_, Nat.le_refl _, (by intro x hx; cases hx), (by show (0 : Int) ≤ 0 ∧ (0 : Int) ≤ _; omega)⟩
  · intro x hx
    simp only [startZ, List.mem_replicate] at hx
    omega
  · show ((firstZ p).length : Int) = p.size
    rw [firstZ_len p p.size.toNat (by omega) (by omega)]; omega
theorem RunOk.steps {p : Prog} : ∀ (n : Nat) {k : Nat} {x : Res × Int}, RunOk p k x.1 → k + n ≤ 1000000 → RunOk p (k + n) (stepsZ p n x).1
  | 0, k, x, h, _ => h
  | n + 1, k, x, h, hk => by
    rw [show k + (n + 1) = (k + 1) + n by omega]
    exact RunOk.steps n (h.step (by omega) x.2) (by omega)
end Go.Proofs.Ytdjllgdeijdieaa.Words

/- Contract of seq.Run. -/
namespace Go.Proofs.Ytdjllgdeijdieaa.Words
set_option maxRecDepth 100000
open Go.RowKit
set_option linter.unusedVariables false

structure RoundS (p : Prog) (vc : Value) (w3 wr : World) (B mb k : Nat) (vm vw : Value) : Prop where
  box : MBox wr mb (machL vc (resL (stepsZ p k (startZ p)).1 vm vw) (stepsZ p k (startZ p)).2)
  own : ResOwn wr B vm vw (stepsZ p k (startZ p)).1
  bel : Below B w3 wr
  live : (stepsZ p k (startZ p)).1.e = 0
theorem run_early {p : Prog} {fuel : Int} {n k : Nat} (hr : p.right = true) (hc : clampZ fuel = n) (hk : k < n) (he : (stepsZ p (k + 1) (startZ p)).1.e ≠ 0) : runZ p fuel = (stepsZ p (k + 1) (startZ p)).1 := by
  unfold runZ
  rw [if_pos hr, hc, show n = (k + 1) + (n - (k + 1)) by omega, stepsZ_add, stepsZ_end _ _ _ he]
  unfold fuelZ
  rw [if_neg he]
theorem run_late {p : Prog} {fuel : Int} {k : Nat} (hr : p.right = true) (hc : clampZ fuel = k) (he : (stepsZ p k (startZ p)).1.e = 0) : runZ p fuel = { (stepsZ p k (startZ p)).1 with e := 3 } := by
  unfold runZ
  rw [if_pos hr, hc]
  unfold fuelZ
  rw [if_pos he]

set_option maxHeartbeats 1000000 in
theorem seqRun_wrong (A D : Option Addr) (c d : Nat) (p : Prog) (w : World) (fuel : Int) (hp : ProgV w w.heap.size (.slice A p.code.length c) (.slice D p.data.length d) p) (hd : ∀ b ∈ p.data, 0 ≤ b ∧ b ≤ 255) (hr : p.right = false) :
    Calls Try.prog 10 #[.agg #[.slice A p.code.length c, .int .i64 p.size, .slice D p.data.length d], .int .i64 fuel] w fun e w' => ∃ vm' vw', e = .returned (.agg (resL (runZ p fuel) vm' vw').toArray) ∧ ResOwn w' w.heap.size vm' vw' (runZ p fuel) ∧ Below w.heap.size w w' := by
  have HRT : Hid (p.right = false) := hr
  rw [show runZ p fuel = noRes by unfold runZ; rw [hr]; rfl]
  clear hr
  obtain ⟨u1, u2⟩ := hp.code.cap
  obtain ⟨u3, u4⟩ := hp.data.cap
  have hs : ((w.alloc (.cells #[.slice A p.code.length c, .int .i64 p.size, .slice D p.data.length d] 25)).alloc (.cells #[.int .i64 0, .int .i64 0, .int .i64 0, .int .i64 0, .int .i64 0, .int .u32 0, .int .u32 0, .int .u32 0, .int .u32 0, .int .u32 0, .int .u32 0, .int .u32 0, .int .u32 0, .int .u32 0, .int .u32 0, .int .u32 0, .int .u32 0, .int .u32 0, .int .u32 0, .int .u32 0, .int .u32 0, .slice none 0 0, .slice none 0 0] 34)).heap.size = w.heap.size + 2 := by simp
  have HB := Lib.hid (((Below.refl w.heap.size w).alloc (Nat.le_refl _) (.cells #[.slice A p.code.length c, .int .i64 p.size, .slice D p.data.length d] 25)).alloc (by simp) (.cells #[.int .i64 0, .int .i64 0, .int .i64 0, .int .i64 0, .int .i64 0, .int .u32 0, .int .u32 0, .int .u32 0, .int .u32 0, .int .u32 0, .int .u32 0, .int .u32 0, .int .u32 0, .int .u32 0, .int .u32 0, .int .u32 0, .int .u32 0, .int .u32 0, .int .u32 0, .int .u32 0, .int .u32 0, .slice none 0 0, .slice none 0 0] 34))
  have HP0 := Lib.hid (fun (x : World) (h : Below w.heap.size w x) => hp.below h)
  have e0 : ((w.alloc (.cells #[.slice A p.code.length c, .int .i64 p.size, .slice D p.data.length d] 25)).alloc (.cells #[.int .i64 0, .int .i64 0, .int .i64 0, .int .i64 0, .int .i64 0, .int .u32 0, .int .u32 0, .int .u32 0, .int .u32 0, .int .u32 0, .int .u32 0, .int .u32 0, .int .u32 0, .int .u32 0, .int .u32 0, .int .u32 0, .int .u32 0, .int .u32 0, .int .u32 0, .int .u32 0, .int .u32 0, .slice none 0 0, .slice none 0 0] 34)).cell? ⟨w.heap.size, 0, none⟩ = some (.slice A p.code.length c) := by go_simp
  have e1 : ((w.alloc (.cells #[.slice A p.code.length c, .int .i64 p.size, .slice D p.data.length d] 25)).alloc (.cells #[.int .i64 0, .int .i64 0, .int .i64 0, .int .i64 0, .int .i64 0, .int .u32 0, .int .u32 0, .int .u32 0, .int .u32 0, .int .u32 0, .int .u32 0, .int .u32 0, .int .u32 0, .int .u32 0, .int .u32 0, .int .u32 0, .int .u32 0, .int .u32 0, .int .u32 0, .int .u32 0, .int .u32 0, .slice none 0 0, .slice none 0 0] 34)).cell? ⟨w.heap.size, 1, none⟩ = some (.int .i64 p.size) := by go_simp
  have e2 : ((w.alloc (.cells #[.slice A p.code.length c, .int .i64 p.size, .slice D p.data.length d] 25)).alloc (.cells #[.int .i64 0, .int .i64 0, .int .i64 0, .int .i64 0, .int .i64 0, .int .u32 0, .int .u32 0, .int .u32 0, .int .u32 0, .int .u32 0, .int .u32 0, .int .u32 0, .int .u32 0, .int .u32 0, .int .u32 0, .int .u32 0, .int .u32 0, .int .u32 0, .int .u32 0, .int .u32 0, .int .u32 0, .slice none 0 0, .slice none 0 0] 34)).cell? ⟨w.heap.size, 2, none⟩ = some (.slice D p.data.length d) := by go_simp
  have Q0 : Hid (Box ((w.alloc (.cells #[.slice A p.code.length c, .int .i64 p.size, .slice D p.data.length d] 25)).alloc (.cells #[.int .i64 0, .int .i64 0, .int .i64 0, .int .i64 0, .int .i64 0, .int .u32 0, .int .u32 0, .int .u32 0, .int .u32 0, .int .u32 0, .int .u32 0, .int .u32 0, .int .u32 0, .int .u32 0, .int .u32 0, .int .u32 0, .int .u32 0, .int .u32 0, .int .u32 0, .int .u32 0, .int .u32 0, .slice none 0 0, .slice none 0 0] 34)) (w.heap.size + 1) (resL noRes (.slice none 0 0) (.slice none 0 0))) := by
    have := Box.new (w.alloc (.cells #[.slice A p.code.length c, .int .i64 p.size, .slice D p.data.length d] 25)) (resL noRes (.slice none 0 0) (.slice none 0 0)) 34
    have e : (w.alloc (.cells #[.slice A p.code.length c, .int .i64 p.size, .slice D p.data.length d] 25)).heap.size = w.heap.size + 1 := by simp
    rw [e] at this
    exact this
  have E0 := Lib.hid (And.intro e0 (And.intro e1 e2))
  have HD := Lib.hid hd
  clear hp hd
  go_enter Try.func10, Try.ntmps10
  go_wp2_with fail
  generalize ((w.alloc (.cells #[.slice A p.code.length c, .int .i64 p.size, .slice D p.data.length d] 25)).alloc (.cells #[.int .i64 0, .int .i64 0, .int .i64 0, .int .i64 0, .int .i64 0, .int .u32 0, .int .u32 0, .int .u32 0, .int .u32 0, .int .u32 0, .int .u32 0, .int .u32 0, .int .u32 0, .int .u32 0, .int .u32 0, .int .u32 0, .int .u32 0, .int .u32 0, .int .u32 0, .int .u32 0, .int .u32 0, .slice none 0 0, .slice none 0 0] 34)) = W0 at *
  refine (imgRight_any A c p.size D p.data.length d p.code _ (((HP0.out _ HB.out).code).more HB.out.size) u3 u4).mono ?_; rintro e w1 ⟨rfl, hb1⟩
  rw [show rightZ p.code p.size p.data.length = false from HRT.out]
  have hb1' : Below (w.heap.size + 2) W0 w1 := hs ▸ hb1
  have HL1 := Lib.hid (HB.out.trans (hb1'.mono (by omega)))
  have Q1 := Lib.hid (Q0.out.below hb1' (by omega))
  have E1 : Hid (w1.cell? ⟨w.heap.size, 0, none⟩ = some (.slice A p.code.length c) ∧ w1.cell? ⟨w.heap.size, 1, none⟩ = some (.int .i64 p.size) ∧ w1.cell? ⟨w.heap.size, 2, none⟩ = some (.slice D p.data.length d)) := ⟨below_cell hb1' (by omega) E0.out.1, below_cell hb1' (by omega) E0.out.2.1, below_cell hb1' (by omega) E0.out.2.2⟩
  have hz1 : w.heap.size + 2 ≤ w1.heap.size := by have := hb1'.size; omega
  clear e0 e1 e2 E0 hb1 hb1' Q0
  obtain ⟨e0, e1, e2⟩ := E1.out
  go_wp2_with (refine wpList_store_box rfl 34 (.tmp 4) (.tmp 9) rfl (w.heap.size + 1) 0 (resL noRes (.slice none 0 0) (.slice none 0 0)) rfl rfl (resL noRes (.slice none 0 0) (.slice none 0 0)) Q1.out (by rw [resL_len rfl]; exact Nat.le_refl _) 23 info_res (resL_len rfl) (resL_one rfl rfl) ?_; intro w2 B2' hg2; rw [splice_whole _ _ (by rw [resL_len rfl])] at B2'; have B2 := Lib.hid B2'; have HL2 := Lib.hid (Below.grown HL1.out hg2 HL1.out.size (fun k hk => grown_ge hk (by omega))); clear B2' hg2)
  refine bodyPost_ret (v := .agg (resL noRes (.slice none 0 0) (.slice none 0 0)).toArray) ?_ rfl ⟨_, _, rfl, ⟨World.ownsRow_nil _ _ _ _, World.ownsRow_nil _ _ _ _, rfl⟩, HL2.out⟩
  exact results_cell Try.results10 _ _ _ ⟨w.heap.size + 1, 0, none⟩ _ rfl (load_res B2.out rfl)

set_option maxHeartbeats 1000000 in
theorem seqRun_lo (A D : Option Addr) (c d : Nat) (p : Prog) (w : World) (fuel : Int) (hp : ProgV w w.heap.size (.slice A p.code.length c) (.slice D p.data.length d) p) (hd : ∀ b ∈ p.data, 0 ≤ b ∧ b ≤ 255) (hr : p.right = true) (hfl : fuel ≤ 100000) (hfb : -9223372036854775808 ≤ fuel ∧ fuel ≤ 9223372036854775807) :
    Calls Try.prog 10 #[.agg #[.slice A p.code.length c, .int .i64 p.size, .slice D p.data.length d], .int .i64 fuel] w fun e w' => ∃ vm' vw', e = .returned (.agg (resL (runZ p fuel) vm' vw').toArray) ∧ ResOwn w' w.heap.size vm' vw' (runZ p fuel) ∧ Below w.heap.size w w' := by
  have HRT : Hid (p.right = true) := hr
  have HRC := Lib.hid (right_code hr)
  obtain ⟨km, hkm⟩ : ∃ k : Nat, p.size = (k : Int) := ⟨p.size.toNat, by have := HRC.out; omega⟩
  have HKM := Lib.hid hkm
  have HFL := Lib.hid (firstZ_len p km hkm (by have := HRC.out; omega))
  have hs0 : 0 ≤ p.size := HRC.out.2.2.1
  have hs1 : (p.data.length : Int) ≤ p.size := HRC.out.2.2.2.2.1
  have HCL := Lib.hid (show clampZ fuel = fuel.toNat by unfold clampZ; repeat' split; all_goals omega)
  have HMF := Lib.hid (show fuel.toNat ≤ 100000 by omega)
  clear hr hkm
  obtain ⟨u1, u2⟩ := hp.code.cap
  obtain ⟨u3, u4⟩ := hp.data.cap
  have hs : ((w.alloc (.cells #[.slice A p.code.length c, .int .i64 p.size, .slice D p.data.length d] 25)).alloc (.cells #[.int .i64 0, .int .i64 0, .int .i64 0, .int .i64 0, .int .i64 0, .int .u32 0, .int .u32 0, .int .u32 0, .int .u32 0, .int .u32 0, .int .u32 0, .int .u32 0, .int .u32 0, .int .u32 0, .int .u32 0, .int .u32 0, .int .u32 0, .int .u32 0, .int .u32 0, .int .u32 0, .int .u32 0, .slice none 0 0, .slice none 0 0] 34)).heap.size = w.heap.size + 2 := by simp
  have HB := Lib.hid (((Below.refl w.heap.size w).alloc (Nat.le_refl _) (.cells #[.slice A p.code.length c, .int .i64 p.size, .slice D p.data.length d] 25)).alloc (by simp) (.cells #[.int .i64 0, .int .i64 0, .int .i64 0, .int .i64 0, .int .i64 0, .int .u32 0, .int .u32 0, .int .u32 0, .int .u32 0, .int .u32 0, .int .u32 0, .int .u32 0, .int .u32 0, .int .u32 0, .int .u32 0, .int .u32 0, .int .u32 0, .int .u32 0, .int .u32 0, .int .u32 0, .int .u32 0, .slice none 0 0, .slice none 0 0] 34))
  have HP0 := Lib.hid (fun (x : World) (h : Below w.heap.size w x) => hp.below h)
  have e0 : ((w.alloc (.cells #[.slice A p.code.length c, .int .i64 p.size, .slice D p.data.length d] 25)).alloc (.cells #[.int .i64 0, .int .i64 0, .int .i64 0, .int .i64 0, .int .i64 0, .int .u32 0, .int .u32 0, .int .u32 0, .int .u32 0, .int .u32 0, .int .u32 0, .int .u32 0, .int .u32 0, .int .u32 0, .int .u32 0, .int .u32 0, .int .u32 0, .int .u32 0, .int .u32 0, .int .u32 0, .int .u32 0, .slice none 0 0, .slice none 0 0] 34)).cell? ⟨w.heap.size, 0, none⟩ = some (.slice A p.code.length c) := by go_simp
  have e1 : ((w.alloc (.cells #[.slice A p.code.length c, .int .i64 p.size, .slice D p.data.length d] 25)).alloc (.cells #[.int .i64 0, .int .i64 0, .int .i64 0, .int .i64 0, .int .i64 0, .int .u32 0, .int .u32 0, .int .u32 0, .int .u32 0, .int .u32 0, .int .u32 0, .int .u32 0, .int .u32 0, .int .u32 0, .int .u32 0, .int .u32 0, .int .u32 0, .int .u32 0, .int .u32 0, .int .u32 0, .int .u32 0, .slice none 0 0, .slice none 0 0] 34)).cell? ⟨w.heap.size, 1, none⟩ = some (.int .i64 p.size) := by go_simp
  have e2 : ((w.alloc (.cells #[.slice A p.code.length c, .int .i64 p.size, .slice D p.data.length d] 25)).alloc (.cells #[.int .i64 0, .int .i64 0, .int .i64 0, .int .i64 0, .int .i64 0, .int .u32 0, .int .u32 0, .int .u32 0, .int .u32 0, .int .u32 0, .int .u32 0, .int .u32 0, .int .u32 0, .int .u32 0, .int .u32 0, .int .u32 0, .int .u32 0, .int .u32 0, .int .u32 0, .int .u32 0, .int .u32 0, .slice none 0 0, .slice none 0 0] 34)).cell? ⟨w.heap.size, 2, none⟩ = some (.slice D p.data.length d) := by go_simp
  have Q0 : Hid (Box ((w.alloc (.cells #[.slice A p.code.length c, .int .i64 p.size, .slice D p.data.length d] 25)).alloc (.cells #[.int .i64 0, .int .i64 0, .int .i64 0, .int .i64 0, .int .i64 0, .int .u32 0, .int .u32 0, .int .u32 0, .int .u32 0, .int .u32 0, .int .u32 0, .int .u32 0, .int .u32 0, .int .u32 0, .int .u32 0, .int .u32 0, .int .u32 0, .int .u32 0, .int .u32 0, .int .u32 0, .int .u32 0, .slice none 0 0, .slice none 0 0] 34)) (w.heap.size + 1) (resL noRes (.slice none 0 0) (.slice none 0 0))) := by
    have := Box.new (w.alloc (.cells #[.slice A p.code.length c, .int .i64 p.size, .slice D p.data.length d] 25)) (resL noRes (.slice none 0 0) (.slice none 0 0)) 34
    have e : (w.alloc (.cells #[.slice A p.code.length c, .int .i64 p.size, .slice D p.data.length d] 25)).heap.size = w.heap.size + 1 := by simp
    rw [e] at this
    exact this
  have E0 := Lib.hid (And.intro e0 (And.intro e1 e2))
  have HD := Lib.hid hd
  clear hp hd
  go_enter Try.func10, Try.ntmps10
  go_wp2_with fail
  generalize ((w.alloc (.cells #[.slice A p.code.length c, .int .i64 p.size, .slice D p.data.length d] 25)).alloc (.cells #[.int .i64 0, .int .i64 0, .int .i64 0, .int .i64 0, .int .i64 0, .int .u32 0, .int .u32 0, .int .u32 0, .int .u32 0, .int .u32 0, .int .u32 0, .int .u32 0, .int .u32 0, .int .u32 0, .int .u32 0, .int .u32 0, .int .u32 0, .int .u32 0, .int .u32 0, .int .u32 0, .int .u32 0, .slice none 0 0, .slice none 0 0] 34)) = W0 at *
  refine (imgRight_any A c p.size D p.data.length d p.code _ (((HP0.out _ HB.out).code).more HB.out.size) u3 u4).mono ?_; rintro e w1 ⟨rfl, hb1⟩
  rw [show rightZ p.code p.size p.data.length = true from HRT.out]
  have hb1' : Below (w.heap.size + 2) W0 w1 := hs ▸ hb1
  have HL1 := Lib.hid (HB.out.trans (hb1'.mono (by omega)))
  have Q1 := Lib.hid (Q0.out.below hb1' (by omega))
  have E1 : Hid (w1.cell? ⟨w.heap.size, 0, none⟩ = some (.slice A p.code.length c) ∧ w1.cell? ⟨w.heap.size, 1, none⟩ = some (.int .i64 p.size) ∧ w1.cell? ⟨w.heap.size, 2, none⟩ = some (.slice D p.data.length d)) := ⟨below_cell hb1' (by omega) E0.out.1, below_cell hb1' (by omega) E0.out.2.1, below_cell hb1' (by omega) E0.out.2.2⟩
  have hz1 : w.heap.size + 2 ≤ w1.heap.size := by have := hb1'.size; omega
  clear e0 e1 e2 E0 hb1 hb1' Q0
  obtain ⟨e0, e1, e2⟩ := E1.out
  go_wp2_with fail
  have hS : w1.drew.cell? ⟨w.heap.size, 0, none⟩ = some (.slice A p.code.length c) ∧ w1.drew.cell? ⟨w.heap.size, 1, none⟩ = some (.int .i64 p.size) ∧ w1.drew.cell? ⟨w.heap.size, 2, none⟩ = some (.slice D p.data.length d) := ⟨e0, e1, e2⟩
  refine wp_region_tree _ (LinT.of [(0, true), (1, true), (2, true)] (.two 3 6 (LinT.of [(4, true), (5, true), (6, false), (7, false)] .nil) (LinT.of [(3, false), (4, true), (5, true), (7, false)] .nil))) (by kernel_rfl) (by kernel_rfl) rfl (by kernel_rfl) (fun x => x.cell? ⟨w.heap.size, 0, none⟩ = some (.slice A p.code.length c) ∧ x.cell? ⟨w.heap.size, 1, none⟩ = some (.int .i64 p.size) ∧ x.cell? ⟨w.heap.size, 2, none⟩ = some (.slice D p.data.length d)) (fun _ _ h => h) ?_
  simp only [LinT.of, LinT.look, List.getElem?_toArray, List.getElem?_cons_succ, List.getElem?_cons_zero]
  iterate 3 (refine tree_take (v := ?_) hS (by rfl) ?_ ?_; rotate_left; (intro x hx; obtain ⟨x0, x1, x2⟩ := hx; go_simp; try (with_reducible rfl)); (simp only [Act.put, List.setIfInBounds_toArray, List.set_cons_zero, List.set_cons_succ]))
  refine tree_two hS (by rfl) (by rfl) (fun K hK => ?_) (fun K hK => ?_)
  · go_simp
    refine (begin_any A D c d km p w1.drew (show ProgV w1.drew w1.drew.heap.size _ _ p from ⟨((HP0.out _ HL1.out).more HL1.out.size).code, ((HP0.out _ HL1.out).more HL1.out.size).data⟩) HKM.out (by have := HRC.out; have := HKM.out; omega) (by have := HRC.out; have := HKM.out; omega)).mono ?_
    rintro e w2 ⟨vm1, rfl, hO2, hb2⟩
    have hb2' : Below w1.heap.size w1 w2 := ⟨hb2.os, hb2.tape, hb2.output, hb2.size, hb2.block⟩
    have hS1 : w2.cell? ⟨w.heap.size, 0, none⟩ = some (.slice A p.code.length c) ∧ w2.cell? ⟨w.heap.size, 1, none⟩ = some (.int .i64 p.size) ∧ w2.cell? ⟨w.heap.size, 2, none⟩ = some (.slice D p.data.length d) := ⟨below_cell hb2' (by omega) e0, below_cell hb2' (by omega) e1, below_cell hb2' (by omega) e2⟩
    have Q1b := Lib.hid (Q1.out.below hb2' (by omega))
    have HL1b := Lib.hid (HL1.out.trans (hb2'.mono HL1.out.size))
    have O1b : Hid (w2.ownsRow (w.heap.size + 2) 5 1 vm1 (startZ p).1.mem.length ((startZ p).1.mem.map (Value.int .u8))) := by
      show World.ownsRow _ _ _ _ _ (firstZ p).length _
      rw [HFL.out]
      exact own_base hO2 hz1
    obtain ⟨Am, cm, rfl⟩ := (Row.of_own O1b.out).form
    rw [show (startZ p).1.mem.length = km from HFL.out] at O1b ⊢
    have hz2 : w.heap.size + 2 ≤ w2.heap.size := by have := hb2'.size; omega
    clear hO2 hb2 hb2' hS Q1 HL1 e0 e1 e2
    have hS := hS1
    clear hS1
    go_wp2_with fail
    refine hK.out _ _ hS (fun _ => ?_)
    clear hK K
    try simp only [Act.put, List.setIfInBounds_toArray, List.set_cons_zero, List.set_cons_succ]
    refine tree_take (v := .agg (resL noRes (.slice Am km cm) (.slice none 0 0)).toArray) hS (by rfl) (fun x hx => exec_build _ _ rfl _ (by simp only [List.map_toArray, List.map_cons, List.map_nil]; exact result_built Am km cm) x) ?_
    simp only [Act.put, List.setIfInBounds_toArray, List.set_cons_zero, List.set_cons_succ]
    refine tree_take (v := .agg (machL (.slice A p.code.length c) (resL noRes (.slice Am km cm) (.slice none 0 0)) 0).toArray) hS (by rfl) (fun x hx => exec_build _ _ rfl _ (by simp only [List.map_toArray, List.map_cons, List.map_nil]; exact machine_built0 A p.code.length c (resL noRes (.slice Am km cm) (.slice none 0 0)) (resL_len rfl)) x) ?_
    simp only [Act.put, List.setIfInBounds_toArray, List.set_cons_zero, List.set_cons_succ]
    refine tree_call hS (by rfl) (fun K hK => ?_)
    go_simp
    have hS2 : (w2.alloc (.cells #[.slice none 0 0, .int .i64 0, .int .i64 0, .int .i64 0, .int .i64 0, .int .i64 0, .int .u32 0, .int .u32 0, .int .u32 0, .int .u32 0, .int .u32 0, .int .u32 0, .int .u32 0, .int .u32 0, .int .u32 0, .int .u32 0, .int .u32 0, .int .u32 0, .int .u32 0, .int .u32 0, .int .u32 0, .int .u32 0, .slice none 0 0, .slice none 0 0, .int .i64 0] 59)).cell? ⟨w.heap.size, 0, none⟩ = some (.slice A p.code.length c) ∧ (w2.alloc (.cells #[.slice none 0 0, .int .i64 0, .int .i64 0, .int .i64 0, .int .i64 0, .int .i64 0, .int .u32 0, .int .u32 0, .int .u32 0, .int .u32 0, .int .u32 0, .int .u32 0, .int .u32 0, .int .u32 0, .int .u32 0, .int .u32 0, .int .u32 0, .int .u32 0, .int .u32 0, .int .u32 0, .int .u32 0, .int .u32 0, .slice none 0 0, .slice none 0 0, .int .i64 0] 59)).cell? ⟨w.heap.size, 1, none⟩ = some (.int .i64 p.size) ∧ (w2.alloc (.cells #[.slice none 0 0, .int .i64 0, .int .i64 0, .int .i64 0, .int .i64 0, .int .i64 0, .int .u32 0, .int .u32 0, .int .u32 0, .int .u32 0, .int .u32 0, .int .u32 0, .int .u32 0, .int .u32 0, .int .u32 0, .int .u32 0, .int .u32 0, .int .u32 0, .int .u32 0, .int .u32 0, .int .u32 0, .int .u32 0, .slice none 0 0, .slice none 0 0, .int .i64 0] 59)).cell? ⟨w.heap.size, 2, none⟩ = some (.slice D p.data.length d) := ⟨one_cell (by omega) hS.1, one_cell (by omega) hS.2.1, one_cell (by omega) hS.2.2⟩
    refine hK.out _ _ hS2 (fun _ => ?_)
    clear hK K
    try simp only [Act.put, List.setIfInBounds_toArray, List.set_cons_zero, List.set_cons_succ]
    have HMZ := MBox.new w2 (machL (.slice none 0 0) (resL noRes (.slice none 0 0) (.slice none 0 0)) 0)
    have Q2 := Lib.hid (Q1b.out.alloc (.cells #[.slice none 0 0, .int .i64 0, .int .i64 0, .int .i64 0, .int .i64 0, .int .i64 0, .int .u32 0, .int .u32 0, .int .u32 0, .int .u32 0, .int .u32 0, .int .u32 0, .int .u32 0, .int .u32 0, .int .u32 0, .int .u32 0, .int .u32 0, .int .u32 0, .int .u32 0, .int .u32 0, .int .u32 0, .int .u32 0, .slice none 0 0, .slice none 0 0, .int .i64 0] 59))
    have HL2 := Lib.hid (HL1b.out.alloc HL1b.out.size (.cells #[.slice none 0 0, .int .i64 0, .int .i64 0, .int .i64 0, .int .i64 0, .int .i64 0, .int .u32 0, .int .u32 0, .int .u32 0, .int .u32 0, .int .u32 0, .int .u32 0, .int .u32 0, .int .u32 0, .int .u32 0, .int .u32 0, .int .u32 0, .int .u32 0, .int .u32 0, .int .u32 0, .int .u32 0, .int .u32 0, .slice none 0 0, .slice none 0 0, .int .i64 0] 59))
    have O2 : Hid ((w2.alloc (.cells #[.slice none 0 0, .int .i64 0, .int .i64 0, .int .i64 0, .int .i64 0, .int .i64 0, .int .u32 0, .int .u32 0, .int .u32 0, .int .u32 0, .int .u32 0, .int .u32 0, .int .u32 0, .int .u32 0, .int .u32 0, .int .u32 0, .int .u32 0, .int .u32 0, .int .u32 0, .int .u32 0, .int .u32 0, .int .u32 0, .slice none 0 0, .slice none 0 0, .int .i64 0] 59)).ownsRow (w.heap.size + 2) 5 1 (.slice Am km cm) (startZ p).1.mem.length ((startZ p).1.mem.map (Value.int .u8))) := (show w2.ownsRow (w.heap.size + 2) 5 1 (.slice Am km cm) (startZ p).1.mem.length _ from (show (startZ p).1.mem.length = km from HFL.out) ▸ O1b.out).alloc _
    have hz3 : w2.heap.size < (w2.alloc (.cells #[.slice none 0 0, .int .i64 0, .int .i64 0, .int .i64 0, .int .i64 0, .int .i64 0, .int .u32 0, .int .u32 0, .int .u32 0, .int .u32 0, .int .u32 0, .int .u32 0, .int .u32 0, .int .u32 0, .int .u32 0, .int .u32 0, .int .u32 0, .int .u32 0, .int .u32 0, .int .u32 0, .int .u32 0, .int .u32 0, .slice none 0 0, .slice none 0 0, .int .i64 0] 59)).heap.size := by simp
    clear hS Q1b HL1b O1b
    have hS := hS2
    clear hS2
    change MBox (w2.alloc (.cells #[.slice none 0 0, .int .i64 0, .int .i64 0, .int .i64 0, .int .i64 0, .int .i64 0, .int .u32 0, .int .u32 0, .int .u32 0, .int .u32 0, .int .u32 0, .int .u32 0, .int .u32 0, .int .u32 0, .int .u32 0, .int .u32 0, .int .u32 0, .int .u32 0, .int .u32 0, .int .u32 0, .int .u32 0, .int .u32 0, .slice none 0 0, .slice none 0 0, .int .i64 0] 59)) w2.heap.size (machL (.slice none 0 0) (resL noRes (.slice none 0 0) (.slice none 0 0)) 0) at HMZ
    generalize w2.alloc (.cells #[.slice none 0 0, .int .i64 0, .int .i64 0, .int .i64 0, .int .i64 0, .int .i64 0, .int .u32 0, .int .u32 0, .int .u32 0, .int .u32 0, .int .u32 0, .int .u32 0, .int .u32 0, .int .u32 0, .int .u32 0, .int .u32 0, .int .u32 0, .int .u32 0, .int .u32 0, .int .u32 0, .int .u32 0, .int .u32 0, .slice none 0 0, .slice none 0 0, .int .i64 0] 59) = w2' at *
    generalize w2.heap.size = mb at *
    have hbm : w.heap.size + 2 ≤ mb := hz2
    clear hz1 hz2 E1
    have hne0 : some w.heap.size ≠ some mb := fun h => by injection h with h; omega
    have hneq : some (w.heap.size + 1) ≠ some mb := fun h => by injection h with h; omega
    have hmz : MBox w2' mb (machL (.slice none 0 0) (resL noRes (.slice none 0 0) (.slice none 0 0)) 0) := HMZ
    refine tree_store_mbox hS (by rfl) 59 (.tmp 5) (.tmp 15) rfl mb 0 (machL (.slice A p.code.length c) (resL noRes (.slice Am km cm) (.slice none 0 0)) 0) rfl rfl (machL (.slice none 0 0) (resL noRes (.slice none 0 0) (.slice none 0 0)) 0) hmz (by rw [machL_len (resL_len rfl), machL_len (resL_len rfl)]; exact Nat.le_refl _) 25 info_mach (machL_len (resL_len rfl)) (machL_one rfl (resL_one rfl rfl)) ?_ ?_
    · intro w3 h1 h2
      exact ⟨h2.cell hS.1 hne0, h2.cell hS.2.1 hne0, h2.cell hS.2.2 hne0⟩
    intro w3 hMB hg3
    rw [splice_whole _ _ (by rw [machL_len (resL_len rfl), machL_len (resL_len rfl)])] at hMB
    refine tree_done ?_
    have Q3 := Lib.hid (Q2.out.grown hg3 hneq)
    have HL3 := Lib.hid (Below.grown HL2.out hg3 HL2.out.size (fun k hk => grown_ge hk (by omega)))
    have O3 := Lib.hid (show ResOwn w3 (w.heap.size + 2) (.slice Am km cm) (.slice none 0 0) (startZ p).1 from ⟨O2.out.kept hg3 (.inr (own_notM O2.out hmz ne_u8)), World.ownsRow_nil _ _ _ _, rfl⟩)
    have MB3 : Hid (MBox w3 mb (machL (.slice A p.code.length c) (resL (startZ p).1 (.slice Am km cm) (.slice none 0 0)) (startZ p).2)) := hMB
    clear hS Q2 HL2 O2 hg3 hmz HMZ hMB hne0 hneq
    go_wp2_with fail
    go_loopw [18] (fun i wr => ∃ (k : Nat) (vm vw : Value), k ≤ fuel.toNat ∧ i = .int .i64 k ∧ RoundS p (.slice A p.code.length c) w3 wr (w.heap.size + 2) mb k vm vw) (fun i _ => fuel.toNat - (intOf i).toNat)
    case atStart => exact ⟨0, _, _, Nat.zero_le _, rfl, ⟨MB3.out, O3.out, Below.refl _ _, rfl⟩⟩
    case round =>
      obtain ⟨k, vm, vw, hk, rfl, hR⟩ := hrel
      have hk5 : k ≤ 100000 := by have := HMF.out; omega
      have hok := RunOk.steps k (RunOk.start HD.out hs0 hs1) (by omega)
      rw [Nat.zero_add] at hok
      have HLr := Lib.hid (HL3.out.trans (hR.bel.mono (by omega)))
      have Qr := Lib.hid (Q3.out.below hR.bel (by omega))
      have HR := Lib.hid hR
      have HOK := Lib.hid hok
      clear hR hok
      by_cases hlt : k < fuel.toNat
      · have k0 : (0 : Int) ≤ k := by omega
        have k1 : (k : Int) < fuel := by omega
        have hsu := Lib.hid (stepsZ_succ p k (startZ p))
        go_wp2_with fail
        refine (mStep_any A c p _ vm vw _ mb wr HR.out.box (w.heap.size + 2) hbm HR.out.own ((HP0.out _ HLr.out).code.more (by omega)) HOK.out.regs HOK.out.mem (by have := HOK.out.ws; omega) HR.out.live HRT.out HOK.out.size).mono ?_; rintro e w5 ⟨rfl, vm5, vw5, hMB5, hO5, hb5⟩
        rw [← hsu.out] at hMB5 hO5
        have hbel := Lib.hid (HR.out.bel.trans hb5)
        have HL5 := Lib.hid (HLr.out.trans (hb5.mono (by omega)))
        have Q5 := Lib.hid (Qr.out.below hb5 (by omega))
        have N5 := Lib.hid hO5.regs
        have c1 := hMB5.cell (machL_res (resL_len hO5.regs) (resL_0 (vm := vm5) (vw := vw5)))
        have MB5 := Lib.hid hMB5
        have O5 := Lib.hid hO5
        clear hMB5 hO5 hb5
        cases he : ((stepsZ p (k + 1) (startZ p)).1.e != 0)
        · have he0 := Lib.hid (show (stepsZ p (k + 1) (startZ p)).1.e = 0 by simpa using he)
          go_wp2_with fail
          go_roundw
          case rel => exact ⟨k + 1, vm5, vw5, by omega, by go_num, ⟨MB5.out, O5.out, hbel.out, he0.out⟩⟩
          case measure => simp [intOf]; omega
        · have hrun := Lib.hid (show runZ p fuel = (stepsZ p (k + 1) (startZ p)).1 from run_early HRT.out HCL.out hlt (by simpa using he))
          obtain ⟨M5, m5, rfl⟩ := (Row.of_own O5.out.mem).form
          obtain ⟨U5, u5, rfl⟩ := (Row.of_own O5.out.ws).form
          generalize (stepsZ p (k + 1) (startZ p)) = x5 at *
          go_wp2_with (first
            | (refine wpList_load_box rfl 34 (.tmp 25) rfl mb 1 rfl (machL (.slice A p.code.length c) (resL x5.1 (.slice M5 x5.1.mem.length m5) (.slice U5 x5.1.ws.length u5)) x5.2) (resL x5.1 (.slice M5 x5.1.mem.length m5) (.slice U5 x5.1.ws.length u5)) MB5.out.box (fun j v hv => by rw [Nat.add_comm]; exact machL_res (resL_len N5.out) hv) _ Try.underlying34 rfl 23 info_res (resL_len N5.out) ?_)
            | (refine wpList_store_box rfl 34 (.tmp 4) (.tmp 26) rfl (w.heap.size + 1) 0 (resL x5.1 (.slice M5 x5.1.mem.length m5) (.slice U5 x5.1.ws.length u5)) rfl rfl (resL noRes (.slice none 0 0) (.slice none 0 0)) Q5.out (by rw [resL_len N5.out, resL_len rfl]; exact Nat.le_refl _) 23 info_res (resL_len N5.out) (resL_one rfl rfl) ?_; intro w9 hB9 hg9; rw [splice_whole _ _ (by rw [resL_len N5.out, resL_len rfl])] at hB9))
          refine bodyPost_ret (v := .agg (resL x5.1 (.slice M5 x5.1.mem.length m5) (.slice U5 x5.1.ws.length u5)).toArray) ?_ rfl ⟨_, _, by rw [hrun.out], ?_, ?_⟩
          · exact results_cell Try.results10 _ _ _ ⟨w.heap.size + 1, 0, none⟩ _ rfl (load_res hB9 N5.out)
          · rw [hrun.out]
            exact (O5.out.grown hg9 (by omega)).base (by omega)
          · exact Below.grown HL5.out hg9 HL5.out.size (fun k hk => grown_ge hk (by omega))
      · have k1 : fuel ≤ (k : Int) := by omega
        have hrun := Lib.hid (show runZ p fuel = { (stepsZ p k (startZ p)).1 with e := 3 } from run_late HRT.out (show clampZ fuel = k by have := HCL.out; omega) HR.out.live)
        have N5 := Lib.hid HR.out.own.regs
        have c1 := HR.out.box.cell (machL_res (resL_len HR.out.own.regs) (resL_0 (vm := vm) (vw := vw)))
        have d1 := HR.out.box.frozen (0 + 1)
        have MB5 := Lib.hid (HR.out.box.setCell (0 + 1) (.int .i64 3))
        have O5 := Lib.hid (HR.out.own.grownM HR.out.box (grown_setCell _ _ (0 + 1) (.int .i64 3) HR.out.box.lt))
        have HL5 := Lib.hid (HLr.out.setCell (p := ⟨mb, 0 + 1, none⟩) (show w.heap.size ≤ mb by omega) (.int .i64 3))
        have Q5 := Lib.hid (Qr.out.setCell_other (show w.heap.size + 1 ≠ mb by omega) (0 + 1) (.int .i64 3))
        have MB6 : Hid (MBox (wr.setCell ⟨mb, 0 + 1, none⟩ (.int .i64 3)) mb (machL (.slice A p.code.length c) (resL { (stepsZ p k (startZ p)).1 with e := 3 } vm vw) (stepsZ p k (startZ p)).2)) := by
          have := MB5.out
          rwa [machL_set (resL_len N5.out) _ (by omega), resL_set0] at this
        obtain ⟨M5, m5, rfl⟩ := (Row.of_own O5.out.mem).form
        obtain ⟨U5, u5, rfl⟩ := (Row.of_own O5.out.ws).form
        have O6 : Hid (ResOwn (wr.setCell ⟨mb, 0 + 1, none⟩ (.int .i64 3)) (w.heap.size + 2) (.slice M5 (stepsZ p k (startZ p)).1.mem.length m5) (.slice U5 (stepsZ p k (startZ p)).1.ws.length u5) { (stepsZ p k (startZ p)).1 with e := 3 }) := ⟨O5.out.mem, O5.out.ws, N5.out⟩
        have kq : decide ((k : Int) < fuel) = false := decide_eq_false (by omega)
        clear MB5 O5 HR HOK Qr HLr k1 hk5 hlt
        generalize (stepsZ p k (startZ p)) = x5 at *
        go_wp2_with (first
          | (refine wpList_load_box rfl 34 (.tmp 30) rfl mb 1 rfl (machL (.slice A p.code.length c) (resL { x5.1 with e := 3 } (.slice M5 x5.1.mem.length m5) (.slice U5 x5.1.ws.length u5)) x5.2) (resL { x5.1 with e := 3 } (.slice M5 x5.1.mem.length m5) (.slice U5 x5.1.ws.length u5)) MB6.out.box (fun j v hv => by rw [Nat.add_comm]; exact machL_res (resL_len (r := { x5.1 with e := 3 }) N5.out) hv) _ Try.underlying34 rfl 23 info_res (resL_len (r := { x5.1 with e := 3 }) N5.out) ?_)
          | (refine wpList_store_box rfl 34 (.tmp 4) (.tmp 31) rfl (w.heap.size + 1) 0 (resL { x5.1 with e := 3 } (.slice M5 x5.1.mem.length m5) (.slice U5 x5.1.ws.length u5)) rfl rfl (resL noRes (.slice none 0 0) (.slice none 0 0)) Q5.out (by rw [resL_len (r := { x5.1 with e := 3 }) N5.out, resL_len rfl]; exact Nat.le_refl _) 23 info_res (resL_len (r := { x5.1 with e := 3 }) N5.out) (resL_one rfl rfl) ?_; intro w9 hB9 hg9; rw [splice_whole _ _ (by rw [resL_len (r := { x5.1 with e := 3 }) N5.out, resL_len rfl])] at hB9))
        refine bodyPost_ret (v := .agg (resL { x5.1 with e := 3 } (.slice M5 x5.1.mem.length m5) (.slice U5 x5.1.ws.length u5)).toArray) ?_ rfl ⟨_, _, by rw [hrun.out], ?_, ?_⟩
        · exact results_cell Try.results10 _ _ _ ⟨w.heap.size + 1, 0, none⟩ _ rfl (load_res hB9 N5.out)
        · rw [hrun.out]
          exact (O6.out.grown hg9 (by omega)).base (by omega)
        · exact Below.grown HL5.out hg9 HL5.out.size (fun k hk => grown_ge hk (by omega))
  · go_simp
    have hS2 : (w1.drew.alloc (.cells #[.slice none 0 0, .int .i64 0, .int .i64 0, .int .i64 0, .int .i64 0, .int .i64 0, .int .u32 0, .int .u32 0, .int .u32 0, .int .u32 0, .int .u32 0, .int .u32 0, .int .u32 0, .int .u32 0, .int .u32 0, .int .u32 0, .int .u32 0, .int .u32 0, .int .u32 0, .int .u32 0, .int .u32 0, .int .u32 0, .slice none 0 0, .slice none 0 0, .int .i64 0] 59)).cell? ⟨w.heap.size, 0, none⟩ = some (.slice A p.code.length c) ∧ (w1.drew.alloc (.cells #[.slice none 0 0, .int .i64 0, .int .i64 0, .int .i64 0, .int .i64 0, .int .i64 0, .int .u32 0, .int .u32 0, .int .u32 0, .int .u32 0, .int .u32 0, .int .u32 0, .int .u32 0, .int .u32 0, .int .u32 0, .int .u32 0, .int .u32 0, .int .u32 0, .int .u32 0, .int .u32 0, .int .u32 0, .int .u32 0, .slice none 0 0, .slice none 0 0, .int .i64 0] 59)).cell? ⟨w.heap.size, 1, none⟩ = some (.int .i64 p.size) ∧ (w1.drew.alloc (.cells #[.slice none 0 0, .int .i64 0, .int .i64 0, .int .i64 0, .int .i64 0, .int .i64 0, .int .u32 0, .int .u32 0, .int .u32 0, .int .u32 0, .int .u32 0, .int .u32 0, .int .u32 0, .int .u32 0, .int .u32 0, .int .u32 0, .int .u32 0, .int .u32 0, .int .u32 0, .int .u32 0, .int .u32 0, .int .u32 0, .slice none 0 0, .slice none 0 0, .int .i64 0] 59)).cell? ⟨w.heap.size, 2, none⟩ = some (.slice D p.data.length d) := ⟨one_cell (w := w1.drew) (show w.heap.size < w1.heap.size by omega) hS.1, one_cell (w := w1.drew) (show w.heap.size < w1.heap.size by omega) hS.2.1, one_cell (w := w1.drew) (show w.heap.size < w1.heap.size by omega) hS.2.2⟩
    refine hK.out _ _ hS2 (fun _ => ?_)
    clear hK K
    try simp only [Act.put, List.setIfInBounds_toArray, List.set_cons_zero, List.set_cons_succ]
    have HMZ0 := MBox.new w1.drew (machL (.slice none 0 0) (resL noRes (.slice none 0 0) (.slice none 0 0)) 0)
    have Q1b : Hid (Box (w1.drew.alloc (.cells #[.slice none 0 0, .int .i64 0, .int .i64 0, .int .i64 0, .int .i64 0, .int .i64 0, .int .u32 0, .int .u32 0, .int .u32 0, .int .u32 0, .int .u32 0, .int .u32 0, .int .u32 0, .int .u32 0, .int .u32 0, .int .u32 0, .int .u32 0, .int .u32 0, .int .u32 0, .int .u32 0, .int .u32 0, .int .u32 0, .slice none 0 0, .slice none 0 0, .int .i64 0] 59)) (w.heap.size + 1) (resL noRes (.slice none 0 0) (.slice none 0 0))) := Box.alloc (w := w1.drew) Q1.out _
    have HL1b := Lib.hid (show Below w.heap.size w (w1.drew.alloc (.cells #[.slice none 0 0, .int .i64 0, .int .i64 0, .int .i64 0, .int .i64 0, .int .i64 0, .int .u32 0, .int .u32 0, .int .u32 0, .int .u32 0, .int .u32 0, .int .u32 0, .int .u32 0, .int .u32 0, .int .u32 0, .int .u32 0, .int .u32 0, .int .u32 0, .int .u32 0, .int .u32 0, .int .u32 0, .int .u32 0, .slice none 0 0, .slice none 0 0, .int .i64 0] 59)) from HL1.out.drew.alloc (show w.heap.size ≤ w1.heap.size by omega) _)
    have hsz : (w1.drew.alloc (.cells #[.slice none 0 0, .int .i64 0, .int .i64 0, .int .i64 0, .int .i64 0, .int .i64 0, .int .u32 0, .int .u32 0, .int .u32 0, .int .u32 0, .int .u32 0, .int .u32 0, .int .u32 0, .int .u32 0, .int .u32 0, .int .u32 0, .int .u32 0, .int .u32 0, .int .u32 0, .int .u32 0, .int .u32 0, .int .u32 0, .slice none 0 0, .slice none 0 0, .int .i64 0] 59)).heap.size = w1.heap.size + 1 := by simp
    change MBox (w1.drew.alloc (.cells #[.slice none 0 0, .int .i64 0, .int .i64 0, .int .i64 0, .int .i64 0, .int .i64 0, .int .u32 0, .int .u32 0, .int .u32 0, .int .u32 0, .int .u32 0, .int .u32 0, .int .u32 0, .int .u32 0, .int .u32 0, .int .u32 0, .int .u32 0, .int .u32 0, .int .u32 0, .int .u32 0, .int .u32 0, .int .u32 0, .slice none 0 0, .slice none 0 0, .int .i64 0] 59)) w1.heap.size (machL (.slice none 0 0) (resL noRes (.slice none 0 0) (.slice none 0 0)) 0) at HMZ0
    have hPV := Lib.hid (show ProgV (w1.drew.alloc (.cells #[.slice none 0 0, .int .i64 0, .int .i64 0, .int .i64 0, .int .i64 0, .int .i64 0, .int .u32 0, .int .u32 0, .int .u32 0, .int .u32 0, .int .u32 0, .int .u32 0, .int .u32 0, .int .u32 0, .int .u32 0, .int .u32 0, .int .u32 0, .int .u32 0, .int .u32 0, .int .u32 0, .int .u32 0, .int .u32 0, .slice none 0 0, .slice none 0 0, .int .i64 0] 59)) (w1.drew.alloc (.cells #[.slice none 0 0, .int .i64 0, .int .i64 0, .int .i64 0, .int .i64 0, .int .i64 0, .int .u32 0, .int .u32 0, .int .u32 0, .int .u32 0, .int .u32 0, .int .u32 0, .int .u32 0, .int .u32 0, .int .u32 0, .int .u32 0, .int .u32 0, .int .u32 0, .int .u32 0, .int .u32 0, .int .u32 0, .int .u32 0, .slice none 0 0, .slice none 0 0, .int .i64 0] 59)).heap.size (.slice A p.code.length c) (.slice D p.data.length d) p from (HP0.out _ HL1b.out).more HL1b.out.size)
    clear hS Q1 HL1 e0 e1 e2
    have hS := hS2
    clear hS2
    refine tree_call hS (by rfl) (fun K hK => ?_)
    go_simp
    refine (begin_any A D c d km p (w1.drew.alloc (.cells #[.slice none 0 0, .int .i64 0, .int .i64 0, .int .i64 0, .int .i64 0, .int .i64 0, .int .u32 0, .int .u32 0, .int .u32 0, .int .u32 0, .int .u32 0, .int .u32 0, .int .u32 0, .int .u32 0, .int .u32 0, .int .u32 0, .int .u32 0, .int .u32 0, .int .u32 0, .int .u32 0, .int .u32 0, .int .u32 0, .slice none 0 0, .slice none 0 0, .int .i64 0] 59)) hPV.out HKM.out (by have := HRC.out; have := HKM.out; omega) (by have := HRC.out; have := HKM.out; omega)).mono ?_
    generalize w1.drew.alloc (.cells #[.slice none 0 0, .int .i64 0, .int .i64 0, .int .i64 0, .int .i64 0, .int .i64 0, .int .u32 0, .int .u32 0, .int .u32 0, .int .u32 0, .int .u32 0, .int .u32 0, .int .u32 0, .int .u32 0, .int .u32 0, .int .u32 0, .int .u32 0, .int .u32 0, .int .u32 0, .int .u32 0, .int .u32 0, .int .u32 0, .slice none 0 0, .slice none 0 0, .int .i64 0] 59) = w1b at *
    rintro e w2 ⟨vm1, rfl, hO2, hb2⟩
    have hb2' : Below (w1.heap.size + 1) w1b w2 := hsz ▸ hb2
    have hS1 : w2.cell? ⟨w.heap.size, 0, none⟩ = some (.slice A p.code.length c) ∧ w2.cell? ⟨w.heap.size, 1, none⟩ = some (.int .i64 p.size) ∧ w2.cell? ⟨w.heap.size, 2, none⟩ = some (.slice D p.data.length d) := ⟨below_cell hb2' (by omega) hS.1, below_cell hb2' (by omega) hS.2.1, below_cell hb2' (by omega) hS.2.2⟩
    have Q2 := Lib.hid (Q1b.out.below hb2' (by omega))
    have HL2 := Lib.hid (HL1b.out.trans (hb2'.mono (by omega)))
    have HMZ := HMZ0.below hb2' (by omega)
    have O1b : Hid (w2.ownsRow (w.heap.size + 2) 5 1 vm1 (startZ p).1.mem.length ((startZ p).1.mem.map (Value.int .u8))) := by
      show World.ownsRow _ _ _ _ _ (firstZ p).length _
      rw [HFL.out]
      exact own_base hO2 (by omega)
    have hz3 : w1.heap.size < w2.heap.size := by have := hb2'.size; omega
    obtain ⟨Am, cm, rfl⟩ := (Row.of_own O1b.out).form
    rw [show (startZ p).1.mem.length = km from HFL.out] at O1b ⊢
    have O2 : Hid (w2.ownsRow (w.heap.size + 2) 5 1 (.slice Am km cm) (startZ p).1.mem.length ((startZ p).1.mem.map (Value.int .u8))) := (show (startZ p).1.mem.length = km from HFL.out) ▸ O1b.out
    clear hO2 hb2 hb2' hS Q1b HL1b HMZ0 O1b
    have hS := hS1
    clear hS1
    go_wp2_with fail
    refine hK.out _ _ hS (fun _ => ?_)
    clear hK K
    try simp only [Act.put, List.setIfInBounds_toArray, List.set_cons_zero, List.set_cons_succ]
    refine tree_take (v := .agg (resL noRes (.slice Am km cm) (.slice none 0 0)).toArray) hS (by rfl) (fun x hx => exec_build _ _ rfl _ (by simp only [List.map_toArray, List.map_cons, List.map_nil]; exact result_built Am km cm) x) ?_
    simp only [Act.put, List.setIfInBounds_toArray, List.set_cons_zero, List.set_cons_succ]
    refine tree_take (v := .agg (machL (.slice A p.code.length c) (resL noRes (.slice Am km cm) (.slice none 0 0)) 0).toArray) hS (by rfl) (fun x hx => exec_build _ _ rfl _ (by simp only [List.map_toArray, List.map_cons, List.map_nil]; exact machine_built0 A p.code.length c (resL noRes (.slice Am km cm) (.slice none 0 0)) (resL_len rfl)) x) ?_
    simp only [Act.put, List.setIfInBounds_toArray, List.set_cons_zero, List.set_cons_succ]
    generalize w1.heap.size = mb at *
    have hbm : w.heap.size + 2 ≤ mb := hz1
    clear hz1 E1
    have hne0 : some w.heap.size ≠ some mb := fun h => by injection h with h; omega
    have hneq : some (w.heap.size + 1) ≠ some mb := fun h => by injection h with h; omega
    have hmz : MBox w2 mb (machL (.slice none 0 0) (resL noRes (.slice none 0 0) (.slice none 0 0)) 0) := HMZ
    refine tree_store_mbox hS (by rfl) 59 (.tmp 5) (.tmp 15) rfl mb 0 (machL (.slice A p.code.length c) (resL noRes (.slice Am km cm) (.slice none 0 0)) 0) rfl rfl (machL (.slice none 0 0) (resL noRes (.slice none 0 0) (.slice none 0 0)) 0) hmz (by rw [machL_len (resL_len rfl), machL_len (resL_len rfl)]; exact Nat.le_refl _) 25 info_mach (machL_len (resL_len rfl)) (machL_one rfl (resL_one rfl rfl)) ?_ ?_
    · intro w3 h1 h2
      exact ⟨h2.cell hS.1 hne0, h2.cell hS.2.1 hne0, h2.cell hS.2.2 hne0⟩
    intro w3 hMB hg3
    rw [splice_whole _ _ (by rw [machL_len (resL_len rfl), machL_len (resL_len rfl)])] at hMB
    refine tree_done ?_
    have Q3 := Lib.hid (Q2.out.grown hg3 hneq)
    have HL3 := Lib.hid (Below.grown HL2.out hg3 HL2.out.size (fun k hk => grown_ge hk (by omega)))
    have O3 := Lib.hid (show ResOwn w3 (w.heap.size + 2) (.slice Am km cm) (.slice none 0 0) (startZ p).1 from ⟨O2.out.kept hg3 (.inr (own_notM O2.out hmz ne_u8)), World.ownsRow_nil _ _ _ _, rfl⟩)
    have MB3 : Hid (MBox w3 mb (machL (.slice A p.code.length c) (resL (startZ p).1 (.slice Am km cm) (.slice none 0 0)) (startZ p).2)) := hMB
    clear hS Q2 HL2 O2 hg3 hmz HMZ hMB hne0 hneq
    go_wp2_with fail
    go_loopw [18] (fun i wr => ∃ (k : Nat) (vm vw : Value), k ≤ fuel.toNat ∧ i = .int .i64 k ∧ RoundS p (.slice A p.code.length c) w3 wr (w.heap.size + 2) mb k vm vw) (fun i _ => fuel.toNat - (intOf i).toNat)
    case atStart => exact ⟨0, _, _, Nat.zero_le _, rfl, ⟨MB3.out, O3.out, Below.refl _ _, rfl⟩⟩
    case round =>
      obtain ⟨k, vm, vw, hk, rfl, hR⟩ := hrel
      have hk5 : k ≤ 100000 := by have := HMF.out; omega
      have hok := RunOk.steps k (RunOk.start HD.out hs0 hs1) (by omega)
      rw [Nat.zero_add] at hok
      have HLr := Lib.hid (HL3.out.trans (hR.bel.mono (by omega)))
      have Qr := Lib.hid (Q3.out.below hR.bel (by omega))
      have HR := Lib.hid hR
      have HOK := Lib.hid hok
      clear hR hok
      by_cases hlt : k < fuel.toNat
      · have k0 : (0 : Int) ≤ k := by omega
        have k1 : (k : Int) < fuel := by omega
        have hsu := Lib.hid (stepsZ_succ p k (startZ p))
        go_wp2_with fail
        refine (mStep_any A c p _ vm vw _ mb wr HR.out.box (w.heap.size + 2) hbm HR.out.own ((HP0.out _ HLr.out).code.more (by omega)) HOK.out.regs HOK.out.mem (by have := HOK.out.ws; omega) HR.out.live HRT.out HOK.out.size).mono ?_; rintro e w5 ⟨rfl, vm5, vw5, hMB5, hO5, hb5⟩
        rw [← hsu.out] at hMB5 hO5
        have hbel := Lib.hid (HR.out.bel.trans hb5)
        have HL5 := Lib.hid (HLr.out.trans (hb5.mono (by omega)))
        have Q5 := Lib.hid (Qr.out.below hb5 (by omega))
        have N5 := Lib.hid hO5.regs
        have c1 := hMB5.cell (machL_res (resL_len hO5.regs) (resL_0 (vm := vm5) (vw := vw5)))
        have MB5 := Lib.hid hMB5
        have O5 := Lib.hid hO5
        clear hMB5 hO5 hb5
        cases he : ((stepsZ p (k + 1) (startZ p)).1.e != 0)
        · have he0 := Lib.hid (show (stepsZ p (k + 1) (startZ p)).1.e = 0 by simpa using he)
          go_wp2_with fail
          go_roundw
          case rel => exact ⟨k + 1, vm5, vw5, by omega, by go_num, ⟨MB5.out, O5.out, hbel.out, he0.out⟩⟩
          case measure => simp [intOf]; omega
        · have hrun := Lib.hid (show runZ p fuel = (stepsZ p (k + 1) (startZ p)).1 from run_early HRT.out HCL.out hlt (by simpa using he))
          obtain ⟨M5, m5, rfl⟩ := (Row.of_own O5.out.mem).form
          obtain ⟨U5, u5, rfl⟩ := (Row.of_own O5.out.ws).form
          generalize (stepsZ p (k + 1) (startZ p)) = x5 at *
          go_wp2_with (first
            | (refine wpList_load_box rfl 34 (.tmp 25) rfl mb 1 rfl (machL (.slice A p.code.length c) (resL x5.1 (.slice M5 x5.1.mem.length m5) (.slice U5 x5.1.ws.length u5)) x5.2) (resL x5.1 (.slice M5 x5.1.mem.length m5) (.slice U5 x5.1.ws.length u5)) MB5.out.box (fun j v hv => by rw [Nat.add_comm]; exact machL_res (resL_len N5.out) hv) _ Try.underlying34 rfl 23 info_res (resL_len N5.out) ?_)
            | (refine wpList_store_box rfl 34 (.tmp 4) (.tmp 26) rfl (w.heap.size + 1) 0 (resL x5.1 (.slice M5 x5.1.mem.length m5) (.slice U5 x5.1.ws.length u5)) rfl rfl (resL noRes (.slice none 0 0) (.slice none 0 0)) Q5.out (by rw [resL_len N5.out, resL_len rfl]; exact Nat.le_refl _) 23 info_res (resL_len N5.out) (resL_one rfl rfl) ?_; intro w9 hB9 hg9; rw [splice_whole _ _ (by rw [resL_len N5.out, resL_len rfl])] at hB9))
          refine bodyPost_ret (v := .agg (resL x5.1 (.slice M5 x5.1.mem.length m5) (.slice U5 x5.1.ws.length u5)).toArray) ?_ rfl ⟨_, _, by rw [hrun.out], ?_, ?_⟩
          · exact results_cell Try.results10 _ _ _ ⟨w.heap.size + 1, 0, none⟩ _ rfl (load_res hB9 N5.out)
          · rw [hrun.out]
            exact (O5.out.grown hg9 (by omega)).base (by omega)
          · exact Below.grown HL5.out hg9 HL5.out.size (fun k hk => grown_ge hk (by omega))
      · have k1 : fuel ≤ (k : Int) := by omega
        have hrun := Lib.hid (show runZ p fuel = { (stepsZ p k (startZ p)).1 with e := 3 } from run_late HRT.out (show clampZ fuel = k by have := HCL.out; omega) HR.out.live)
        have N5 := Lib.hid HR.out.own.regs
        have c1 := HR.out.box.cell (machL_res (resL_len HR.out.own.regs) (resL_0 (vm := vm) (vw := vw)))
        have d1 := HR.out.box.frozen (0 + 1)
        have MB5 := Lib.hid (HR.out.box.setCell (0 + 1) (.int .i64 3))
        have O5 := Lib.hid (HR.out.own.grownM HR.out.box (grown_setCell _ _ (0 + 1) (.int .i64 3) HR.out.box.lt))
        have HL5 := Lib.hid (HLr.out.setCell (p := ⟨mb, 0 + 1, none⟩) (show w.heap.size ≤ mb by omega) (.int .i64 3))
        have Q5 := Lib.hid (Qr.out.setCell_other (show w.heap.size + 1 ≠ mb by omega) (0 + 1) (.int .i64 3))
        have MB6 : Hid (MBox (wr.setCell ⟨mb, 0 + 1, none⟩ (.int .i64 3)) mb (machL (.slice A p.code.length c) (resL { (stepsZ p k (startZ p)).1 with e := 3 } vm vw) (stepsZ p k (startZ p)).2)) := by
          have := MB5.out
          rwa [machL_set (resL_len N5.out) _ (by omega), resL_set0] at this
        obtain ⟨M5, m5, rfl⟩ := (Row.of_own O5.out.mem).form
        obtain ⟨U5, u5, rfl⟩ := (Row.of_own O5.out.ws).form
        have O6 : Hid (ResOwn (wr.setCell ⟨mb, 0 + 1, none⟩ (.int .i64 3)) (w.heap.size + 2) (.slice M5 (stepsZ p k (startZ p)).1.mem.length m5) (.slice U5 (stepsZ p k (startZ p)).1.ws.length u5) { (stepsZ p k (startZ p)).1 with e := 3 }) := ⟨O5.out.mem, O5.out.ws, N5.out⟩
        have kq : decide ((k : Int) < fuel) = false := decide_eq_false (by omega)
        clear MB5 O5 HR HOK Qr HLr k1 hk5 hlt
        generalize (stepsZ p k (startZ p)) = x5 at *
        go_wp2_with (first
          | (refine wpList_load_box rfl 34 (.tmp 30) rfl mb 1 rfl (machL (.slice A p.code.length c) (resL { x5.1 with e := 3 } (.slice M5 x5.1.mem.length m5) (.slice U5 x5.1.ws.length u5)) x5.2) (resL { x5.1 with e := 3 } (.slice M5 x5.1.mem.length m5) (.slice U5 x5.1.ws.length u5)) MB6.out.box (fun j v hv => by rw [Nat.add_comm]; exact machL_res (resL_len (r := { x5.1 with e := 3 }) N5.out) hv) _ Try.underlying34 rfl 23 info_res (resL_len (r := { x5.1 with e := 3 }) N5.out) ?_)
          | (refine wpList_store_box rfl 34 (.tmp 4) (.tmp 31) rfl (w.heap.size + 1) 0 (resL { x5.1 with e := 3 } (.slice M5 x5.1.mem.length m5) (.slice U5 x5.1.ws.length u5)) rfl rfl (resL noRes (.slice none 0 0) (.slice none 0 0)) Q5.out (by rw [resL_len (r := { x5.1 with e := 3 }) N5.out, resL_len rfl]; exact Nat.le_refl _) 23 info_res (resL_len (r := { x5.1 with e := 3 }) N5.out) (resL_one rfl rfl) ?_; intro w9 hB9 hg9; rw [splice_whole _ _ (by rw [resL_len (r := { x5.1 with e := 3 }) N5.out, resL_len rfl])] at hB9))
        refine bodyPost_ret (v := .agg (resL { x5.1 with e := 3 } (.slice M5 x5.1.mem.length m5) (.slice U5 x5.1.ws.length u5)).toArray) ?_ rfl ⟨_, _, by rw [hrun.out], ?_, ?_⟩
        · exact results_cell Try.results10 _ _ _ ⟨w.heap.size + 1, 0, none⟩ _ rfl (load_res hB9 N5.out)
        · rw [hrun.out]
          exact (O6.out.grown hg9 (by omega)).base (by omega)
        · exact Below.grown HL5.out hg9 HL5.out.size (fun k hk => grown_ge hk (by omega))

set_option maxHeartbeats 1000000 in
theorem seqRun_hi (A D : Option Addr) (c d : Nat) (p : Prog) (w : World) (fuel : Int) (hp : ProgV w w.heap.size (.slice A p.code.length c) (.slice D p.data.length d) p) (hd : ∀ b ∈ p.data, 0 ≤ b ∧ b ≤ 255) (hr : p.right = true) (hfl : 100000 < fuel) (hfb : -9223372036854775808 ≤ fuel ∧ fuel ≤ 9223372036854775807) :
    Calls Try.prog 10 #[.agg #[.slice A p.code.length c, .int .i64 p.size, .slice D p.data.length d], .int .i64 fuel] w fun e w' => ∃ vm' vw', e = .returned (.agg (resL (runZ p fuel) vm' vw').toArray) ∧ ResOwn w' w.heap.size vm' vw' (runZ p fuel) ∧ Below w.heap.size w w' := by
  have HRT : Hid (p.right = true) := hr
  have HRC := Lib.hid (right_code hr)
  obtain ⟨km, hkm⟩ : ∃ k : Nat, p.size = (k : Int) := ⟨p.size.toNat, by have := HRC.out; omega⟩
  have HKM := Lib.hid hkm
  have HFL := Lib.hid (firstZ_len p km hkm (by have := HRC.out; omega))
  have hs0 : 0 ≤ p.size := HRC.out.2.2.1
  have hs1 : (p.data.length : Int) ≤ p.size := HRC.out.2.2.2.2.1
  obtain ⟨nf, hnf⟩ : ∃ n : Nat, (n : Int) = 100000 := ⟨100000, rfl⟩
  have hn1 : (nf : Int) ≤ 100000 := by omega
  have hn2 : 100000 ≤ (nf : Int) := by omega
  have HCL := Lib.hid (show clampZ fuel = nf by unfold clampZ; repeat' split; all_goals omega)
  have HMF := Lib.hid (show nf ≤ 100000 by omega)
  clear hr hkm hnf
  obtain ⟨u1, u2⟩ := hp.code.cap
  obtain ⟨u3, u4⟩ := hp.data.cap
  have hs : ((w.alloc (.cells #[.slice A p.code.length c, .int .i64 p.size, .slice D p.data.length d] 25)).alloc (.cells #[.int .i64 0, .int .i64 0, .int .i64 0, .int .i64 0, .int .i64 0, .int .u32 0, .int .u32 0, .int .u32 0, .int .u32 0, .int .u32 0, .int .u32 0, .int .u32 0, .int .u32 0, .int .u32 0, .int .u32 0, .int .u32 0, .int .u32 0, .int .u32 0, .int .u32 0, .int .u32 0, .int .u32 0, .slice none 0 0, .slice none 0 0] 34)).heap.size = w.heap.size + 2 := by simp
  have HB := Lib.hid (((Below.refl w.heap.size w).alloc (Nat.le_refl _) (.cells #[.slice A p.code.length c, .int .i64 p.size, .slice D p.data.length d] 25)).alloc (by simp) (.cells #[.int .i64 0, .int .i64 0, .int .i64 0, .int .i64 0, .int .i64 0, .int .u32 0, .int .u32 0, .int .u32 0, .int .u32 0, .int .u32 0, .int .u32 0, .int .u32 0, .int .u32 0, .int .u32 0, .int .u32 0, .int .u32 0, .int .u32 0, .int .u32 0, .int .u32 0, .int .u32 0, .int .u32 0, .slice none 0 0, .slice none 0 0] 34))
  have HP0 := Lib.hid (fun (x : World) (h : Below w.heap.size w x) => hp.below h)
  have e0 : ((w.alloc (.cells #[.slice A p.code.length c, .int .i64 p.size, .slice D p.data.length d] 25)).alloc (.cells #[.int .i64 0, .int .i64 0, .int .i64 0, .int .i64 0, .int .i64 0, .int .u32 0, .int .u32 0, .int .u32 0, .int .u32 0, .int .u32 0, .int .u32 0, .int .u32 0, .int .u32 0, .int .u32 0, .int .u32 0, .int .u32 0, .int .u32 0, .int .u32 0, .int .u32 0, .int .u32 0, .int .u32 0, .slice none 0 0, .slice none 0 0] 34)).cell? ⟨w.heap.size, 0, none⟩ = some (.slice A p.code.length c) := by go_simp
  have e1 : ((w.alloc (.cells #[.slice A p.code.length c, .int .i64 p.size, .slice D p.data.length d] 25)).alloc (.cells #[.int .i64 0, .int .i64 0, .int .i64 0, .int .i64 0, .int .i64 0, .int .u32 0, .int .u32 0, .int .u32 0, .int .u32 0, .int .u32 0, .int .u32 0, .int .u32 0, .int .u32 0, .int .u32 0, .int .u32 0, .int .u32 0, .int .u32 0, .int .u32 0, .int .u32 0, .int .u32 0, .int .u32 0, .slice none 0 0, .slice none 0 0] 34)).cell? ⟨w.heap.size, 1, none⟩ = some (.int .i64 p.size) := by go_simp
  have e2 : ((w.alloc (.cells #[.slice A p.code.length c, .int .i64 p.size, .slice D p.data.length d] 25)).alloc (.cells #[.int .i64 0, .int .i64 0, .int .i64 0, .int .i64 0, .int .i64 0, .int .u32 0, .int .u32 0, .int .u32 0, .int .u32 0, .int .u32 0, .int .u32 0, .int .u32 0, .int .u32 0, .int .u32 0, .int .u32 0, .int .u32 0, .int .u32 0, .int .u32 0, .int .u32 0, .int .u32 0, .int .u32 0, .slice none 0 0, .slice none 0 0] 34)).cell? ⟨w.heap.size, 2, none⟩ = some (.slice D p.data.length d) := by go_simp
  have Q0 : Hid (Box ((w.alloc (.cells #[.slice A p.code.length c, .int .i64 p.size, .slice D p.data.length d] 25)).alloc (.cells #[.int .i64 0, .int .i64 0, .int .i64 0, .int .i64 0, .int .i64 0, .int .u32 0, .int .u32 0, .int .u32 0, .int .u32 0, .int .u32 0, .int .u32 0, .int .u32 0, .int .u32 0, .int .u32 0, .int .u32 0, .int .u32 0, .int .u32 0, .int .u32 0, .int .u32 0, .int .u32 0, .int .u32 0, .slice none 0 0, .slice none 0 0] 34)) (w.heap.size + 1) (resL noRes (.slice none 0 0) (.slice none 0 0))) := by
    have := Box.new (w.alloc (.cells #[.slice A p.code.length c, .int .i64 p.size, .slice D p.data.length d] 25)) (resL noRes (.slice none 0 0) (.slice none 0 0)) 34
    have e : (w.alloc (.cells #[.slice A p.code.length c, .int .i64 p.size, .slice D p.data.length d] 25)).heap.size = w.heap.size + 1 := by simp
    rw [e] at this
    exact this
  have E0 := Lib.hid (And.intro e0 (And.intro e1 e2))
  have HD := Lib.hid hd
  clear hp hd
  go_enter Try.func10, Try.ntmps10
  go_wp2_with fail
  generalize ((w.alloc (.cells #[.slice A p.code.length c, .int .i64 p.size, .slice D p.data.length d] 25)).alloc (.cells #[.int .i64 0, .int .i64 0, .int .i64 0, .int .i64 0, .int .i64 0, .int .u32 0, .int .u32 0, .int .u32 0, .int .u32 0, .int .u32 0, .int .u32 0, .int .u32 0, .int .u32 0, .int .u32 0, .int .u32 0, .int .u32 0, .int .u32 0, .int .u32 0, .int .u32 0, .int .u32 0, .int .u32 0, .slice none 0 0, .slice none 0 0] 34)) = W0 at *
  refine (imgRight_any A c p.size D p.data.length d p.code _ (((HP0.out _ HB.out).code).more HB.out.size) u3 u4).mono ?_; rintro e w1 ⟨rfl, hb1⟩
  rw [show rightZ p.code p.size p.data.length = true from HRT.out]
  have hb1' : Below (w.heap.size + 2) W0 w1 := hs ▸ hb1
  have HL1 := Lib.hid (HB.out.trans (hb1'.mono (by omega)))
  have Q1 := Lib.hid (Q0.out.below hb1' (by omega))
  have E1 : Hid (w1.cell? ⟨w.heap.size, 0, none⟩ = some (.slice A p.code.length c) ∧ w1.cell? ⟨w.heap.size, 1, none⟩ = some (.int .i64 p.size) ∧ w1.cell? ⟨w.heap.size, 2, none⟩ = some (.slice D p.data.length d)) := ⟨below_cell hb1' (by omega) E0.out.1, below_cell hb1' (by omega) E0.out.2.1, below_cell hb1' (by omega) E0.out.2.2⟩
  have hz1 : w.heap.size + 2 ≤ w1.heap.size := by have := hb1'.size; omega
  clear e0 e1 e2 E0 hb1 hb1' Q0
  obtain ⟨e0, e1, e2⟩ := E1.out
  go_wp2_with fail
  have hS : w1.drew.cell? ⟨w.heap.size, 0, none⟩ = some (.slice A p.code.length c) ∧ w1.drew.cell? ⟨w.heap.size, 1, none⟩ = some (.int .i64 p.size) ∧ w1.drew.cell? ⟨w.heap.size, 2, none⟩ = some (.slice D p.data.length d) := ⟨e0, e1, e2⟩
  refine wp_region_tree _ (LinT.of [(0, true), (1, true), (2, true)] (.two 3 6 (LinT.of [(4, true), (5, true), (6, false), (7, false)] .nil) (LinT.of [(3, false), (4, true), (5, true), (7, false)] .nil))) (by kernel_rfl) (by kernel_rfl) rfl (by kernel_rfl) (fun x => x.cell? ⟨w.heap.size, 0, none⟩ = some (.slice A p.code.length c) ∧ x.cell? ⟨w.heap.size, 1, none⟩ = some (.int .i64 p.size) ∧ x.cell? ⟨w.heap.size, 2, none⟩ = some (.slice D p.data.length d)) (fun _ _ h => h) ?_
  simp only [LinT.of, LinT.look, List.getElem?_toArray, List.getElem?_cons_succ, List.getElem?_cons_zero]
  iterate 3 (refine tree_take (v := ?_) hS (by rfl) ?_ ?_; rotate_left; (intro x hx; obtain ⟨x0, x1, x2⟩ := hx; go_simp; try (with_reducible rfl)); (simp only [Act.put, List.setIfInBounds_toArray, List.set_cons_zero, List.set_cons_succ]))
  refine tree_two hS (by rfl) (by rfl) (fun K hK => ?_) (fun K hK => ?_)
  · go_simp
    refine (begin_any A D c d km p w1.drew (show ProgV w1.drew w1.drew.heap.size _ _ p from ⟨((HP0.out _ HL1.out).more HL1.out.size).code, ((HP0.out _ HL1.out).more HL1.out.size).data⟩) HKM.out (by have := HRC.out; have := HKM.out; omega) (by have := HRC.out; have := HKM.out; omega)).mono ?_
    rintro e w2 ⟨vm1, rfl, hO2, hb2⟩
    have hb2' : Below w1.heap.size w1 w2 := ⟨hb2.os, hb2.tape, hb2.output, hb2.size, hb2.block⟩
    have hS1 : w2.cell? ⟨w.heap.size, 0, none⟩ = some (.slice A p.code.length c) ∧ w2.cell? ⟨w.heap.size, 1, none⟩ = some (.int .i64 p.size) ∧ w2.cell? ⟨w.heap.size, 2, none⟩ = some (.slice D p.data.length d) := ⟨below_cell hb2' (by omega) e0, below_cell hb2' (by omega) e1, below_cell hb2' (by omega) e2⟩
    have Q1b := Lib.hid (Q1.out.below hb2' (by omega))
    have HL1b := Lib.hid (HL1.out.trans (hb2'.mono HL1.out.size))
    have O1b : Hid (w2.ownsRow (w.heap.size + 2) 5 1 vm1 (startZ p).1.mem.length ((startZ p).1.mem.map (Value.int .u8))) := by
      show World.ownsRow _ _ _ _ _ (firstZ p).length _
      rw [HFL.out]
      exact own_base hO2 hz1
    obtain ⟨Am, cm, rfl⟩ := (Row.of_own O1b.out).form
    rw [show (startZ p).1.mem.length = km from HFL.out] at O1b ⊢
    have hz2 : w.heap.size + 2 ≤ w2.heap.size := by have := hb2'.size; omega
    clear hO2 hb2 hb2' hS Q1 HL1 e0 e1 e2
    have hS := hS1
    clear hS1
    go_wp2_with fail
    refine hK.out _ _ hS (fun _ => ?_)
    clear hK K
    try simp only [Act.put, List.setIfInBounds_toArray, List.set_cons_zero, List.set_cons_succ]
    refine tree_take (v := .agg (resL noRes (.slice Am km cm) (.slice none 0 0)).toArray) hS (by rfl) (fun x hx => exec_build _ _ rfl _ (by simp only [List.map_toArray, List.map_cons, List.map_nil]; exact result_built Am km cm) x) ?_
    simp only [Act.put, List.setIfInBounds_toArray, List.set_cons_zero, List.set_cons_succ]
    refine tree_take (v := .agg (machL (.slice A p.code.length c) (resL noRes (.slice Am km cm) (.slice none 0 0)) 0).toArray) hS (by rfl) (fun x hx => exec_build _ _ rfl _ (by simp only [List.map_toArray, List.map_cons, List.map_nil]; exact machine_built0 A p.code.length c (resL noRes (.slice Am km cm) (.slice none 0 0)) (resL_len rfl)) x) ?_
    simp only [Act.put, List.setIfInBounds_toArray, List.set_cons_zero, List.set_cons_succ]
    refine tree_call hS (by rfl) (fun K hK => ?_)
    go_simp
    have hS2 : (w2.alloc (.cells #[.slice none 0 0, .int .i64 0, .int .i64 0, .int .i64 0, .int .i64 0, .int .i64 0, .int .u32 0, .int .u32 0, .int .u32 0, .int .u32 0, .int .u32 0, .int .u32 0, .int .u32 0, .int .u32 0, .int .u32 0, .int .u32 0, .int .u32 0, .int .u32 0, .int .u32 0, .int .u32 0, .int .u32 0, .int .u32 0, .slice none 0 0, .slice none 0 0, .int .i64 0] 59)).cell? ⟨w.heap.size, 0, none⟩ = some (.slice A p.code.length c) ∧ (w2.alloc (.cells #[.slice none 0 0, .int .i64 0, .int .i64 0, .int .i64 0, .int .i64 0, .int .i64 0, .int .u32 0, .int .u32 0, .int .u32 0, .int .u32 0, .int .u32 0, .int .u32 0, .int .u32 0, .int .u32 0, .int .u32 0, .int .u32 0, .int .u32 0, .int .u32 0, .int .u32 0, .int .u32 0, .int .u32 0, .int .u32 0, .slice none 0 0, .slice none 0 0, .int .i64 0] 59)).cell? ⟨w.heap.size, 1, none⟩ = some (.int .i64 p.size) ∧ (w2.alloc (.cells #[.slice none 0 0, .int .i64 0, .int .i64 0, .int .i64 0, .int .i64 0, .int .i64 0, .int .u32 0, .int .u32 0, .int .u32 0, .int .u32 0, .int .u32 0, .int .u32 0, .int .u32 0, .int .u32 0, .int .u32 0, .int .u32 0, .int .u32 0, .int .u32 0, .int .u32 0, .int .u32 0, .int .u32 0, .int .u32 0, .slice none 0 0, .slice none 0 0, .int .i64 0] 59)).cell? ⟨w.heap.size, 2, none⟩ = some (.slice D p.data.length d) := ⟨one_cell (by omega) hS.1, one_cell (by omega) hS.2.1, one_cell (by omega) hS.2.2⟩
    refine hK.out _ _ hS2 (fun _ => ?_)
    clear hK K
    try simp only [Act.put, List.setIfInBounds_toArray, List.set_cons_zero, List.set_cons_succ]
    have HMZ := MBox.new w2 (machL (.slice none 0 0) (resL noRes (.slice none 0 0) (.slice none 0 0)) 0)
    have Q2 := Lib.hid (Q1b.out.alloc (.cells #[.slice none 0 0, .int .i64 0, .int .i64 0, .int .i64 0, .int .i64 0, .int .i64 0, .int .u32 0, .int .u32 0, .int .u32 0, .int .u32 0, .int .u32 0, .int .u32 0, .int .u32 0, .int .u32 0, .int .u32 0, .int .u32 0, .int .u32 0, .int .u32 0, .int .u32 0, .int .u32 0, .int .u32 0, .int .u32 0, .slice none 0 0, .slice none 0 0, .int .i64 0] 59))
    have HL2 := Lib.hid (HL1b.out.alloc HL1b.out.size (.cells #[.slice none 0 0, .int .i64 0, .int .i64 0, .int .i64 0, .int .i64 0, .int .i64 0, .int .u32 0, .int .u32 0, .int .u32 0, .int .u32 0, .int .u32 0, .int .u32 0, .int .u32 0, .int .u32 0, .int .u32 0, .int .u32 0, .int .u32 0, .int .u32 0, .int .u32 0, .int .u32 0, .int .u32 0, .int .u32 0, .slice none 0 0, .slice none 0 0, .int .i64 0] 59))
    have O2 : Hid ((w2.alloc (.cells #[.slice none 0 0, .int .i64 0, .int .i64 0, .int .i64 0, .int .i64 0, .int .i64 0, .int .u32 0, .int .u32 0, .int .u32 0, .int .u32 0, .int .u32 0, .int .u32 0, .int .u32 0, .int .u32 0, .int .u32 0, .int .u32 0, .int .u32 0, .int .u32 0, .int .u32 0, .int .u32 0, .int .u32 0, .int .u32 0, .slice none 0 0, .slice none 0 0, .int .i64 0] 59)).ownsRow (w.heap.size + 2) 5 1 (.slice Am km cm) (startZ p).1.mem.length ((startZ p).1.mem.map (Value.int .u8))) := (show w2.ownsRow (w.heap.size + 2) 5 1 (.slice Am km cm) (startZ p).1.mem.length _ from (show (startZ p).1.mem.length = km from HFL.out) ▸ O1b.out).alloc _
    have hz3 : w2.heap.size < (w2.alloc (.cells #[.slice none 0 0, .int .i64 0, .int .i64 0, .int .i64 0, .int .i64 0, .int .i64 0, .int .u32 0, .int .u32 0, .int .u32 0, .int .u32 0, .int .u32 0, .int .u32 0, .int .u32 0, .int .u32 0, .int .u32 0, .int .u32 0, .int .u32 0, .int .u32 0, .int .u32 0, .int .u32 0, .int .u32 0, .int .u32 0, .slice none 0 0, .slice none 0 0, .int .i64 0] 59)).heap.size := by simp
    clear hS Q1b HL1b O1b
    have hS := hS2
    clear hS2
    change MBox (w2.alloc (.cells #[.slice none 0 0, .int .i64 0, .int .i64 0, .int .i64 0, .int .i64 0, .int .i64 0, .int .u32 0, .int .u32 0, .int .u32 0, .int .u32 0, .int .u32 0, .int .u32 0, .int .u32 0, .int .u32 0, .int .u32 0, .int .u32 0, .int .u32 0, .int .u32 0, .int .u32 0, .int .u32 0, .int .u32 0, .int .u32 0, .slice none 0 0, .slice none 0 0, .int .i64 0] 59)) w2.heap.size (machL (.slice none 0 0) (resL noRes (.slice none 0 0) (.slice none 0 0)) 0) at HMZ
    generalize w2.alloc (.cells #[.slice none 0 0, .int .i64 0, .int .i64 0, .int .i64 0, .int .i64 0, .int .i64 0, .int .u32 0, .int .u32 0, .int .u32 0, .int .u32 0, .int .u32 0, .int .u32 0, .int .u32 0, .int .u32 0, .int .u32 0, .int .u32 0, .int .u32 0, .int .u32 0, .int .u32 0, .int .u32 0, .int .u32 0, .int .u32 0, .slice none 0 0, .slice none 0 0, .int .i64 0] 59) = w2' at *
    generalize w2.heap.size = mb at *
    have hbm : w.heap.size + 2 ≤ mb := hz2
    clear hz1 hz2 E1
    have hne0 : some w.heap.size ≠ some mb := fun h => by injection h with h; omega
    have hneq : some (w.heap.size + 1) ≠ some mb := fun h => by injection h with h; omega
    have hmz : MBox w2' mb (machL (.slice none 0 0) (resL noRes (.slice none 0 0) (.slice none 0 0)) 0) := HMZ
    refine tree_store_mbox hS (by rfl) 59 (.tmp 5) (.tmp 15) rfl mb 0 (machL (.slice A p.code.length c) (resL noRes (.slice Am km cm) (.slice none 0 0)) 0) rfl rfl (machL (.slice none 0 0) (resL noRes (.slice none 0 0) (.slice none 0 0)) 0) hmz (by rw [machL_len (resL_len rfl), machL_len (resL_len rfl)]; exact Nat.le_refl _) 25 info_mach (machL_len (resL_len rfl)) (machL_one rfl (resL_one rfl rfl)) ?_ ?_
    · intro w3 h1 h2
      exact ⟨h2.cell hS.1 hne0, h2.cell hS.2.1 hne0, h2.cell hS.2.2 hne0⟩
    intro w3 hMB hg3
    rw [splice_whole _ _ (by rw [machL_len (resL_len rfl), machL_len (resL_len rfl)])] at hMB
    refine tree_done ?_
    have Q3 := Lib.hid (Q2.out.grown hg3 hneq)
    have HL3 := Lib.hid (Below.grown HL2.out hg3 HL2.out.size (fun k hk => grown_ge hk (by omega)))
    have O3 := Lib.hid (show ResOwn w3 (w.heap.size + 2) (.slice Am km cm) (.slice none 0 0) (startZ p).1 from ⟨O2.out.kept hg3 (.inr (own_notM O2.out hmz ne_u8)), World.ownsRow_nil _ _ _ _, rfl⟩)
    have MB3 : Hid (MBox w3 mb (machL (.slice A p.code.length c) (resL (startZ p).1 (.slice Am km cm) (.slice none 0 0)) (startZ p).2)) := hMB
    clear hS Q2 HL2 O2 hg3 hmz HMZ hMB hne0 hneq
    go_wp2_with fail
    go_loopw [18] (fun i wr => ∃ (k : Nat) (vm vw : Value), k ≤ nf ∧ i = .int .i64 k ∧ RoundS p (.slice A p.code.length c) w3 wr (w.heap.size + 2) mb k vm vw) (fun i _ => nf - (intOf i).toNat)
    case atStart => exact ⟨0, _, _, Nat.zero_le _, rfl, ⟨MB3.out, O3.out, Below.refl _ _, rfl⟩⟩
    case round =>
      obtain ⟨k, vm, vw, hk, rfl, hR⟩ := hrel
      have hk5 : k ≤ 100000 := by have := HMF.out; omega
      have hok := RunOk.steps k (RunOk.start HD.out hs0 hs1) (by omega)
      rw [Nat.zero_add] at hok
      have HLr := Lib.hid (HL3.out.trans (hR.bel.mono (by omega)))
      have Qr := Lib.hid (Q3.out.below hR.bel (by omega))
      have HR := Lib.hid hR
      have HOK := Lib.hid hok
      clear hR hok
      by_cases hlt : k < nf
      · have k0 : (0 : Int) ≤ k := by omega
        have k1 : (k : Int) < 100000 := by omega
        have hsu := Lib.hid (stepsZ_succ p k (startZ p))
        go_wp2_with fail
        refine (mStep_any A c p _ vm vw _ mb wr HR.out.box (w.heap.size + 2) hbm HR.out.own ((HP0.out _ HLr.out).code.more (by omega)) HOK.out.regs HOK.out.mem (by have := HOK.out.ws; omega) HR.out.live HRT.out HOK.out.size).mono ?_; rintro e w5 ⟨rfl, vm5, vw5, hMB5, hO5, hb5⟩
        rw [← hsu.out] at hMB5 hO5
        have hbel := Lib.hid (HR.out.bel.trans hb5)
        have HL5 := Lib.hid (HLr.out.trans (hb5.mono (by omega)))
        have Q5 := Lib.hid (Qr.out.below hb5 (by omega))
        have N5 := Lib.hid hO5.regs
        have c1 := hMB5.cell (machL_res (resL_len hO5.regs) (resL_0 (vm := vm5) (vw := vw5)))
        have MB5 := Lib.hid hMB5
        have O5 := Lib.hid hO5
        clear hMB5 hO5 hb5
        cases he : ((stepsZ p (k + 1) (startZ p)).1.e != 0)
        · have he0 := Lib.hid (show (stepsZ p (k + 1) (startZ p)).1.e = 0 by simpa using he)
          go_wp2_with fail
          go_roundw
          case rel => exact ⟨k + 1, vm5, vw5, by omega, by go_num, ⟨MB5.out, O5.out, hbel.out, he0.out⟩⟩
          case measure => simp [intOf]; omega
        · have hrun := Lib.hid (show runZ p fuel = (stepsZ p (k + 1) (startZ p)).1 from run_early HRT.out HCL.out hlt (by simpa using he))
          obtain ⟨M5, m5, rfl⟩ := (Row.of_own O5.out.mem).form
          obtain ⟨U5, u5, rfl⟩ := (Row.of_own O5.out.ws).form
          generalize (stepsZ p (k + 1) (startZ p)) = x5 at *
          go_wp2_with (first
            | (refine wpList_load_box rfl 34 (.tmp 25) rfl mb 1 rfl (machL (.slice A p.code.length c) (resL x5.1 (.slice M5 x5.1.mem.length m5) (.slice U5 x5.1.ws.length u5)) x5.2) (resL x5.1 (.slice M5 x5.1.mem.length m5) (.slice U5 x5.1.ws.length u5)) MB5.out.box (fun j v hv => by rw [Nat.add_comm]; exact machL_res (resL_len N5.out) hv) _ Try.underlying34 rfl 23 info_res (resL_len N5.out) ?_)
            | (refine wpList_store_box rfl 34 (.tmp 4) (.tmp 26) rfl (w.heap.size + 1) 0 (resL x5.1 (.slice M5 x5.1.mem.length m5) (.slice U5 x5.1.ws.length u5)) rfl rfl (resL noRes (.slice none 0 0) (.slice none 0 0)) Q5.out (by rw [resL_len N5.out, resL_len rfl]; exact Nat.le_refl _) 23 info_res (resL_len N5.out) (resL_one rfl rfl) ?_; intro w9 hB9 hg9; rw [splice_whole _ _ (by rw [resL_len N5.out, resL_len rfl])] at hB9))
          refine bodyPost_ret (v := .agg (resL x5.1 (.slice M5 x5.1.mem.length m5) (.slice U5 x5.1.ws.length u5)).toArray) ?_ rfl ⟨_, _, by rw [hrun.out], ?_, ?_⟩
          · exact results_cell Try.results10 _ _ _ ⟨w.heap.size + 1, 0, none⟩ _ rfl (load_res hB9 N5.out)
          · rw [hrun.out]
            exact (O5.out.grown hg9 (by omega)).base (by omega)
          · exact Below.grown HL5.out hg9 HL5.out.size (fun k hk => grown_ge hk (by omega))
      · have k1 : 100000 ≤ (k : Int) := by omega
        have hrun := Lib.hid (show runZ p fuel = { (stepsZ p k (startZ p)).1 with e := 3 } from run_late HRT.out (show clampZ fuel = k by have := HCL.out; omega) HR.out.live)
        have N5 := Lib.hid HR.out.own.regs
        have c1 := HR.out.box.cell (machL_res (resL_len HR.out.own.regs) (resL_0 (vm := vm) (vw := vw)))
        have d1 := HR.out.box.frozen (0 + 1)
        have MB5 := Lib.hid (HR.out.box.setCell (0 + 1) (.int .i64 3))
        have O5 := Lib.hid (HR.out.own.grownM HR.out.box (grown_setCell _ _ (0 + 1) (.int .i64 3) HR.out.box.lt))
        have HL5 := Lib.hid (HLr.out.setCell (p := ⟨mb, 0 + 1, none⟩) (show w.heap.size ≤ mb by omega) (.int .i64 3))
        have Q5 := Lib.hid (Qr.out.setCell_other (show w.heap.size + 1 ≠ mb by omega) (0 + 1) (.int .i64 3))
        have MB6 : Hid (MBox (wr.setCell ⟨mb, 0 + 1, none⟩ (.int .i64 3)) mb (machL (.slice A p.code.length c) (resL { (stepsZ p k (startZ p)).1 with e := 3 } vm vw) (stepsZ p k (startZ p)).2)) := by
          have := MB5.out
          rwa [machL_set (resL_len N5.out) _ (by omega), resL_set0] at this
        obtain ⟨M5, m5, rfl⟩ := (Row.of_own O5.out.mem).form
        obtain ⟨U5, u5, rfl⟩ := (Row.of_own O5.out.ws).form
        have O6 : Hid (ResOwn (wr.setCell ⟨mb, 0 + 1, none⟩ (.int .i64 3)) (w.heap.size + 2) (.slice M5 (stepsZ p k (startZ p)).1.mem.length m5) (.slice U5 (stepsZ p k (startZ p)).1.ws.length u5) { (stepsZ p k (startZ p)).1 with e := 3 }) := ⟨O5.out.mem, O5.out.ws, N5.out⟩
        have kq : decide ((k : Int) < 100000) = false := decide_eq_false (by omega)
        clear MB5 O5 HR HOK Qr HLr k1 hk5 hlt
        generalize (stepsZ p k (startZ p)) = x5 at *
        go_wp2_with (first
          | (refine wpList_load_box rfl 34 (.tmp 30) rfl mb 1 rfl (machL (.slice A p.code.length c) (resL { x5.1 with e := 3 } (.slice M5 x5.1.mem.length m5) (.slice U5 x5.1.ws.length u5)) x5.2) (resL { x5.1 with e := 3 } (.slice M5 x5.1.mem.length m5) (.slice U5 x5.1.ws.length u5)) MB6.out.box (fun j v hv => by rw [Nat.add_comm]; exact machL_res (resL_len (r := { x5.1 with e := 3 }) N5.out) hv) _ Try.underlying34 rfl 23 info_res (resL_len (r := { x5.1 with e := 3 }) N5.out) ?_)
          | (refine wpList_store_box rfl 34 (.tmp 4) (.tmp 31) rfl (w.heap.size + 1) 0 (resL { x5.1 with e := 3 } (.slice M5 x5.1.mem.length m5) (.slice U5 x5.1.ws.length u5)) rfl rfl (resL noRes (.slice none 0 0) (.slice none 0 0)) Q5.out (by rw [resL_len (r := { x5.1 with e := 3 }) N5.out, resL_len rfl]; exact Nat.le_refl _) 23 info_res (resL_len (r := { x5.1 with e := 3 }) N5.out) (resL_one rfl rfl) ?_; intro w9 hB9 hg9; rw [splice_whole _ _ (by rw [resL_len (r := { x5.1 with e := 3 }) N5.out, resL_len rfl])] at hB9))
        refine bodyPost_ret (v := .agg (resL { x5.1 with e := 3 } (.slice M5 x5.1.mem.length m5) (.slice U5 x5.1.ws.length u5)).toArray) ?_ rfl ⟨_, _, by rw [hrun.out], ?_, ?_⟩
        · exact results_cell Try.results10 _ _ _ ⟨w.heap.size + 1, 0, none⟩ _ rfl (load_res hB9 N5.out)
        · rw [hrun.out]
          exact (O6.out.grown hg9 (by omega)).base (by omega)
        · exact Below.grown HL5.out hg9 HL5.out.size (fun k hk => grown_ge hk (by omega))
  · go_simp
    have hS2 : (w1.drew.alloc (.cells #[.slice none 0 0, .int .i64 0, .int .i64 0, .int .i64 0, .int .i64 0, .int .i64 0, .int .u32 0, .int .u32 0, .int .u32 0, .int .u32 0, .int .u32 0, .int .u32 0, .int .u32 0, .int .u32 0, .int .u32 0, .int .u32 0, .int .u32 0, .int .u32 0, .int .u32 0, .int .u32 0, .int .u32 0, .int .u32 0, .slice none 0 0, .slice none 0 0, .int .i64 0] 59)).cell? ⟨w.heap.size, 0, none⟩ = some (.slice A p.code.length c) ∧ (w1.drew.alloc (.cells #[.slice none 0 0, .int .i64 0, .int .i64 0, .int .i64 0, .int .i64 0, .int .i64 0, .int .u32 0, .int .u32 0, .int .u32 0, .int .u32 0, .int .u32 0, .int .u32 0, .int .u32 0, .int .u32 0, .int .u32 0, .int .u32 0, .int .u32 0, .int .u32 0, .int .u32 0, .int .u32 0, .int .u32 0, .int .u32 0, .slice none 0 0, .slice none 0 0, .int .i64 0] 59)).cell? ⟨w.heap.size, 1, none⟩ = some (.int .i64 p.size) ∧ (w1.drew.alloc (.cells #[.slice none 0 0, .int .i64 0, .int .i64 0, .int .i64 0, .int .i64 0, .int .i64 0, .int .u32 0, .int .u32 0, .int .u32 0, .int .u32 0, .int .u32 0, .int .u32 0, .int .u32 0, .int .u32 0, .int .u32 0, .int .u32 0, .int .u32 0, .int .u32 0, .int .u32 0, .int .u32 0, .int .u32 0, .int .u32 0, .slice none 0 0, .slice none 0 0, .int .i64 0] 59)).cell? ⟨w.heap.size, 2, none⟩ = some (.slice D p.data.length d) := ⟨one_cell (w := w1.drew) (show w.heap.size < w1.heap.size by omega) hS.1, one_cell (w := w1.drew) (show w.heap.size < w1.heap.size by omega) hS.2.1, one_cell (w := w1.drew) (show w.heap.size < w1.heap.size by omega) hS.2.2⟩
    refine hK.out _ _ hS2 (fun _ => ?_)
    clear hK K
    try simp only [Act.put, List.setIfInBounds_toArray, List.set_cons_zero, List.set_cons_succ]
    have HMZ0 := MBox.new w1.drew (machL (.slice none 0 0) (resL noRes (.slice none 0 0) (.slice none 0 0)) 0)
    have Q1b : Hid (Box (w1.drew.alloc (.cells #[.slice none 0 0, .int .i64 0, .int .i64 0, .int .i64 0, .int .i64 0, .int .i64 0, .int .u32 0, .int .u32 0, .int .u32 0, .int .u32 0, .int .u32 0, .int .u32 0, .int .u32 0, .int .u32 0, .int .u32 0, .int .u32 0, .int .u32 0, .int .u32 0, .int .u32 0, .int .u32 0, .int .u32 0, .int .u32 0, .slice none 0 0, .slice none 0 0, .int .i64 0] 59)) (w.heap.size + 1) (resL noRes (.slice none 0 0) (.slice none 0 0))) := Box.alloc (w := w1.drew) Q1.out _
    have HL1b := Lib.hid (show Below w.heap.size w (w1.drew.alloc (.cells #[.slice none 0 0, .int .i64 0, .int .i64 0, .int .i64 0, .int .i64 0, .int .i64 0, .int .u32 0, .int .u32 0, .int .u32 0, .int .u32 0, .int .u32 0, .int .u32 0, .int .u32 0, .int .u32 0, .int .u32 0, .int .u32 0, .int .u32 0, .int .u32 0, .int .u32 0, .int .u32 0, .int .u32 0, .int .u32 0, .slice none 0 0, .slice none 0 0, .int .i64 0] 59)) from HL1.out.drew.alloc (show w.heap.size ≤ w1.heap.size by omega) _)
    have hsz : (w1.drew.alloc (.cells #[.slice none 0 0, .int .i64 0, .int .i64 0, .int .i64 0, .int .i64 0, .int .i64 0, .int .u32 0, .int .u32 0, .int .u32 0, .int .u32 0, .int .u32 0, .int .u32 0, .int .u32 0, .int .u32 0, .int .u32 0, .int .u32 0, .int .u32 0, .int .u32 0, .int .u32 0, .int .u32 0, .int .u32 0, .int .u32 0, .slice none 0 0, .slice none 0 0, .int .i64 0] 59)).heap.size = w1.heap.size + 1 := by simp
    change MBox (w1.drew.alloc (.cells #[.slice none 0 0, .int .i64 0, .int .i64 0, .int .i64 0, .int .i64 0, .int .i64 0, .int .u32 0, .int .u32 0, .int .u32 0, .int .u32 0, .int .u32 0, .int .u32 0, .int .u32 0, .int .u32 0, .int .u32 0, .int .u32 0, .int .u32 0, .int .u32 0, .int .u32 0, .int .u32 0, .int .u32 0, .int .u32 0, .slice none 0 0, .slice none 0 0, .int .i64 0] 59)) w1.heap.size (machL (.slice none 0 0) (resL noRes (.slice none 0 0) (.slice none 0 0)) 0) at HMZ0
    have hPV := Lib.hid (show ProgV (w1.drew.alloc (.cells #[.slice none 0 0, .int .i64 0, .int .i64 0, .int .i64 0, .int .i64 0, .int .i64 0, .int .u32 0, .int .u32 0, .int .u32 0, .int .u32 0, .int .u32 0, .int .u32 0, .int .u32 0, .int .u32 0, .int .u32 0, .int .u32 0, .int .u32 0, .int .u32 0, .int .u32 0, .int .u32 0, .int .u32 0, .int .u32 0, .slice none 0 0, .slice none 0 0, .int .i64 0] 59)) (w1.drew.alloc (.cells #[.slice none 0 0, .int .i64 0, .int .i64 0, .int .i64 0, .int .i64 0, .int .i64 0, .int .u32 0, .int .u32 0, .int .u32 0, .int .u32 0, .int .u32 0, .int .u32 0, .int .u32 0, .int .u32 0, .int .u32 0, .int .u32 0, .int .u32 0, .int .u32 0, .int .u32 0, .int .u32 0, .int .u32 0, .int .u32 0, .slice none 0 0, .slice none 0 0, .int .i64 0] 59)).heap.size (.slice A p.code.length c) (.slice D p.data.length d) p from (HP0.out _ HL1b.out).more HL1b.out.size)
    clear hS Q1 HL1 e0 e1 e2
    have hS := hS2
    clear hS2
    refine tree_call hS (by rfl) (fun K hK => ?_)
    go_simp
    refine (begin_any A D c d km p (w1.drew.alloc (.cells #[.slice none 0 0, .int .i64 0, .int .i64 0, .int .i64 0, .int .i64 0, .int .i64 0, .int .u32 0, .int .u32 0, .int .u32 0, .int .u32 0, .int .u32 0, .int .u32 0, .int .u32 0, .int .u32 0, .int .u32 0, .int .u32 0, .int .u32 0, .int .u32 0, .int .u32 0, .int .u32 0, .int .u32 0, .int .u32 0, .slice none 0 0, .slice none 0 0, .int .i64 0] 59)) hPV.out HKM.out (by have := HRC.out; have := HKM.out; omega) (by have := HRC.out; have := HKM.out; omega)).mono ?_
    generalize w1.drew.alloc (.cells #[.slice none 0 0, .int .i64 0, .int .i64 0, .int .i64 0, .int .i64 0, .int .i64 0, .int .u32 0, .int .u32 0, .int .u32 0, .int .u32 0, .int .u32 0, .int .u32 0, .int .u32 0, .int .u32 0, .int .u32 0, .int .u32 0, .int .u32 0, .int .u32 0, .int .u32 0, .int .u32 0, .int .u32 0, .int .u32 0, .slice none 0 0, .slice none 0 0, .int .i64 0] 59) = w1b at *
    rintro e w2 ⟨vm1, rfl, hO2, hb2⟩
    have hb2' : Below (w1.heap.size + 1) w1b w2 := hsz ▸ hb2
    have hS1 : w2.cell? ⟨w.heap.size, 0, none⟩ = some (.slice A p.code.length c) ∧ w2.cell? ⟨w.heap.size, 1, none⟩ = some (.int .i64 p.size) ∧ w2.cell? ⟨w.heap.size, 2, none⟩ = some (.slice D p.data.length d) := ⟨below_cell hb2' (by omega) hS.1, below_cell hb2' (by omega) hS.2.1, below_cell hb2' (by omega) hS.2.2⟩
    have Q2 := Lib.hid (Q1b.out.below hb2' (by omega))
    have HL2 := Lib.hid (HL1b.out.trans (hb2'.mono (by omega)))
    have HMZ := HMZ0.below hb2' (by omega)
    have O1b : Hid (w2.ownsRow (w.heap.size + 2) 5 1 vm1 (startZ p).1.mem.length ((startZ p).1.mem.map (Value.int .u8))) := by
      show World.ownsRow _ _ _ _ _ (firstZ p).length _
      rw [HFL.out]
      exact own_base hO2 (by omega)
    have hz3 : w1.heap.size < w2.heap.size := by have := hb2'.size; omega
    obtain ⟨Am, cm, rfl⟩ := (Row.of_own O1b.out).form
    rw [show (startZ p).1.mem.length = km from HFL.out] at O1b ⊢
    have O2 : Hid (w2.ownsRow (w.heap.size + 2) 5 1 (.slice Am km cm) (startZ p).1.mem.length ((startZ p).1.mem.map (Value.int .u8))) := (show (startZ p).1.mem.length = km from HFL.out) ▸ O1b.out
    clear hO2 hb2 hb2' hS Q1b HL1b HMZ0 O1b
    have hS := hS1
    clear hS1
    go_wp2_with fail
    refine hK.out _ _ hS (fun _ => ?_)
    clear hK K
    try simp only [Act.put, List.setIfInBounds_toArray, List.set_cons_zero, List.set_cons_succ]
    refine tree_take (v := .agg (resL noRes (.slice Am km cm) (.slice none 0 0)).toArray) hS (by rfl) (fun x hx => exec_build _ _ rfl _ (by simp only [List.map_toArray, List.map_cons, List.map_nil]; exact result_built Am km cm) x) ?_
    simp only [Act.put, List.setIfInBounds_toArray, List.set_cons_zero, List.set_cons_succ]
    refine tree_take (v := .agg (machL (.slice A p.code.length c) (resL noRes (.slice Am km cm) (.slice none 0 0)) 0).toArray) hS (by rfl) (fun x hx => exec_build _ _ rfl _ (by simp only [List.map_toArray, List.map_cons, List.map_nil]; exact machine_built0 A p.code.length c (resL noRes (.slice Am km cm) (.slice none 0 0)) (resL_len rfl)) x) ?_
    simp only [Act.put, List.setIfInBounds_toArray, List.set_cons_zero, List.set_cons_succ]
    generalize w1.heap.size = mb at *
    have hbm : w.heap.size + 2 ≤ mb := hz1
    clear hz1 E1
    have hne0 : some w.heap.size ≠ some mb := fun h => by injection h with h; omega
    have hneq : some (w.heap.size + 1) ≠ some mb := fun h => by injection h with h; omega
    have hmz : MBox w2 mb (machL (.slice none 0 0) (resL noRes (.slice none 0 0) (.slice none 0 0)) 0) := HMZ
    refine tree_store_mbox hS (by rfl) 59 (.tmp 5) (.tmp 15) rfl mb 0 (machL (.slice A p.code.length c) (resL noRes (.slice Am km cm) (.slice none 0 0)) 0) rfl rfl (machL (.slice none 0 0) (resL noRes (.slice none 0 0) (.slice none 0 0)) 0) hmz (by rw [machL_len (resL_len rfl), machL_len (resL_len rfl)]; exact Nat.le_refl _) 25 info_mach (machL_len (resL_len rfl)) (machL_one rfl (resL_one rfl rfl)) ?_ ?_
    · intro w3 h1 h2
      exact ⟨h2.cell hS.1 hne0, h2.cell hS.2.1 hne0, h2.cell hS.2.2 hne0⟩
    intro w3 hMB hg3
    rw [splice_whole _ _ (by rw [machL_len (resL_len rfl), machL_len (resL_len rfl)])] at hMB
    refine tree_done ?_
    have Q3 := Lib.hid (Q2.out.grown hg3 hneq)
    have HL3 := Lib.hid (Below.grown HL2.out hg3 HL2.out.size (fun k hk => grown_ge hk (by omega)))
    have O3 := Lib.hid (show ResOwn w3 (w.heap.size + 2) (.slice Am km cm) (.slice none 0 0) (startZ p).1 from ⟨O2.out.kept hg3 (.inr (own_notM O2.out hmz ne_u8)), World.ownsRow_nil _ _ _ _, rfl⟩)
    have MB3 : Hid (MBox w3 mb (machL (.slice A p.code.length c) (resL (startZ p).1 (.slice Am km cm) (.slice none 0 0)) (startZ p).2)) := hMB
    clear hS Q2 HL2 O2 hg3 hmz HMZ hMB hne0 hneq
    go_wp2_with fail
    go_loopw [18] (fun i wr => ∃ (k : Nat) (vm vw : Value), k ≤ nf ∧ i = .int .i64 k ∧ RoundS p (.slice A p.code.length c) w3 wr (w.heap.size + 2) mb k vm vw) (fun i _ => nf - (intOf i).toNat)
    case atStart => exact ⟨0, _, _, Nat.zero_le _, rfl, ⟨MB3.out, O3.out, Below.refl _ _, rfl⟩⟩
    case round =>
      obtain ⟨k, vm, vw, hk, rfl, hR⟩ := hrel
      have hk5 : k ≤ 100000 := by have := HMF.out; omega
      have hok := RunOk.steps k (RunOk.start HD.out hs0 hs1) (by omega)
      rw [Nat.zero_add] at hok
      have HLr := Lib.hid (HL3.out.trans (hR.bel.mono (by omega)))
      have Qr := Lib.hid (Q3.out.below hR.bel (by omega))
      have HR := Lib.hid hR
      have HOK := Lib.hid hok
      clear hR hok
      by_cases hlt : k < nf
      · have k0 : (0 : Int) ≤ k := by omega
        have k1 : (k : Int) < 100000 := by omega
        have hsu := Lib.hid (stepsZ_succ p k (startZ p))
        go_wp2_with fail
        refine (mStep_any A c p _ vm vw _ mb wr HR.out.box (w.heap.size + 2) hbm HR.out.own ((HP0.out _ HLr.out).code.more (by omega)) HOK.out.regs HOK.out.mem (by have := HOK.out.ws; omega) HR.out.live HRT.out HOK.out.size).mono ?_; rintro e w5 ⟨rfl, vm5, vw5, hMB5, hO5, hb5⟩
        rw [← hsu.out] at hMB5 hO5
        have hbel := Lib.hid (HR.out.bel.trans hb5)
        have HL5 := Lib.hid (HLr.out.trans (hb5.mono (by omega)))
        have Q5 := Lib.hid (Qr.out.below hb5 (by omega))
        have N5 := Lib.hid hO5.regs
        have c1 := hMB5.cell (machL_res (resL_len hO5.regs) (resL_0 (vm := vm5) (vw := vw5)))
        have MB5 := Lib.hid hMB5
        have O5 := Lib.hid hO5
        clear hMB5 hO5 hb5
        cases he : ((stepsZ p (k + 1) (startZ p)).1.e != 0)
        · have he0 := Lib.hid (show (stepsZ p (k + 1) (startZ p)).1.e = 0 by simpa using he)
          go_wp2_with fail
          go_roundw
          case rel => exact ⟨k + 1, vm5, vw5, by omega, by go_num, ⟨MB5.out, O5.out, hbel.out, he0.out⟩⟩
          case measure => simp [intOf]; omega
        · have hrun := Lib.hid (show runZ p fuel = (stepsZ p (k + 1) (startZ p)).1 from run_early HRT.out HCL.out hlt (by simpa using he))
          obtain ⟨M5, m5, rfl⟩ := (Row.of_own O5.out.mem).form
          obtain ⟨U5, u5, rfl⟩ := (Row.of_own O5.out.ws).form
          generalize (stepsZ p (k + 1) (startZ p)) = x5 at *
          go_wp2_with (first
            | (refine wpList_load_box rfl 34 (.tmp 25) rfl mb 1 rfl (machL (.slice A p.code.length c) (resL x5.1 (.slice M5 x5.1.mem.length m5) (.slice U5 x5.1.ws.length u5)) x5.2) (resL x5.1 (.slice M5 x5.1.mem.length m5) (.slice U5 x5.1.ws.length u5)) MB5.out.box (fun j v hv => by rw [Nat.add_comm]; exact machL_res (resL_len N5.out) hv) _ Try.underlying34 rfl 23 info_res (resL_len N5.out) ?_)
            | (refine wpList_store_box rfl 34 (.tmp 4) (.tmp 26) rfl (w.heap.size + 1) 0 (resL x5.1 (.slice M5 x5.1.mem.length m5) (.slice U5 x5.1.ws.length u5)) rfl rfl (resL noRes (.slice none 0 0) (.slice none 0 0)) Q5.out (by rw [resL_len N5.out, resL_len rfl]; exact Nat.le_refl _) 23 info_res (resL_len N5.out) (resL_one rfl rfl) ?_; intro w9 hB9 hg9; rw [splice_whole _ _ (by rw [resL_len N5.out, resL_len rfl])] at hB9))
          refine bodyPost_ret (v := .agg (resL x5.1 (.slice M5 x5.1.mem.length m5) (.slice U5 x5.1.ws.length u5)).toArray) ?_ rfl ⟨_, _, by rw [hrun.out], ?_, ?_⟩
          · exact results_cell Try.results10 _ _ _ ⟨w.heap.size + 1, 0, none⟩ _ rfl (load_res hB9 N5.out)
          · rw [hrun.out]
            exact (O5.out.grown hg9 (by omega)).base (by omega)
          · exact Below.grown HL5.out hg9 HL5.out.size (fun k hk => grown_ge hk (by omega))
      · have k1 : 100000 ≤ (k : Int) := by omega
        have hrun := Lib.hid (show runZ p fuel = { (stepsZ p k (startZ p)).1 with e := 3 } from run_late HRT.out (show clampZ fuel = k by have := HCL.out; omega) HR.out.live)
        have N5 := Lib.hid HR.out.own.regs
        have c1 := HR.out.box.cell (machL_res (resL_len HR.out.own.regs) (resL_0 (vm := vm) (vw := vw)))
        have d1 := HR.out.box.frozen (0 + 1)
        have MB5 := Lib.hid (HR.out.box.setCell (0 + 1) (.int .i64 3))
        have O5 := Lib.hid (HR.out.own.grownM HR.out.box (grown_setCell _ _ (0 + 1) (.int .i64 3) HR.out.box.lt))
        have HL5 := Lib.hid (HLr.out.setCell (p := ⟨mb, 0 + 1, none⟩) (show w.heap.size ≤ mb by omega) (.int .i64 3))
        have Q5 := Lib.hid (Qr.out.setCell_other (show w.heap.size + 1 ≠ mb by omega) (0 + 1) (.int .i64 3))
        have MB6 : Hid (MBox (wr.setCell ⟨mb, 0 + 1, none⟩ (.int .i64 3)) mb (machL (.slice A p.code.length c) (resL { (stepsZ p k (startZ p)).1 with e := 3 } vm vw) (stepsZ p k (startZ p)).2)) := by
          have := MB5.out
          rwa [machL_set (resL_len N5.out) _ (by omega), resL_set0] at this
        obtain ⟨M5, m5, rfl⟩ := (Row.of_own O5.out.mem).form
        obtain ⟨U5, u5, rfl⟩ := (Row.of_own O5.out.ws).form
        have O6 : Hid (ResOwn (wr.setCell ⟨mb, 0 + 1, none⟩ (.int .i64 3)) (w.heap.size + 2) (.slice M5 (stepsZ p k (startZ p)).1.mem.length m5) (.slice U5 (stepsZ p k (startZ p)).1.ws.length u5) { (stepsZ p k (startZ p)).1 with e := 3 }) := ⟨O5.out.mem, O5.out.ws, N5.out⟩
        have kq : decide ((k : Int) < 100000) = false := decide_eq_false (by omega)
        clear MB5 O5 HR HOK Qr HLr k1 hk5 hlt
        generalize (stepsZ p k (startZ p)) = x5 at *
        go_wp2_with (first
          | (refine wpList_load_box rfl 34 (.tmp 30) rfl mb 1 rfl (machL (.slice A p.code.length c) (resL { x5.1 with e := 3 } (.slice M5 x5.1.mem.length m5) (.slice U5 x5.1.ws.length u5)) x5.2) (resL { x5.1 with e := 3 } (.slice M5 x5.1.mem.length m5) (.slice U5 x5.1.ws.length u5)) MB6.out.box (fun j v hv => by rw [Nat.add_comm]; exact machL_res (resL_len (r := { x5.1 with e := 3 }) N5.out) hv) _ Try.underlying34 rfl 23 info_res (resL_len (r := { x5.1 with e := 3 }) N5.out) ?_)
          | (refine wpList_store_box rfl 34 (.tmp 4) (.tmp 31) rfl (w.heap.size + 1) 0 (resL { x5.1 with e := 3 } (.slice M5 x5.1.mem.length m5) (.slice U5 x5.1.ws.length u5)) rfl rfl (resL noRes (.slice none 0 0) (.slice none 0 0)) Q5.out (by rw [resL_len (r := { x5.1 with e := 3 }) N5.out, resL_len rfl]; exact Nat.le_refl _) 23 info_res (resL_len (r := { x5.1 with e := 3 }) N5.out) (resL_one rfl rfl) ?_; intro w9 hB9 hg9; rw [splice_whole _ _ (by rw [resL_len (r := { x5.1 with e := 3 }) N5.out, resL_len rfl])] at hB9))
        refine bodyPost_ret (v := .agg (resL { x5.1 with e := 3 } (.slice M5 x5.1.mem.length m5) (.slice U5 x5.1.ws.length u5)).toArray) ?_ rfl ⟨_, _, by rw [hrun.out], ?_, ?_⟩
        · exact results_cell Try.results10 _ _ _ ⟨w.heap.size + 1, 0, none⟩ _ rfl (load_res hB9 N5.out)
        · rw [hrun.out]
          exact (O6.out.grown hg9 (by omega)).base (by omega)
        · exact Below.grown HL5.out hg9 HL5.out.size (fun k hk => grown_ge hk (by omega))

theorem seqRun_any (A D : Option Addr) (c d : Nat) (p : Prog) (w : World) (fuel : Int) (hp : ProgV w w.heap.size (.slice A p.code.length c) (.slice D p.data.length d) p) (hd : ∀ b ∈ p.data, 0 ≤ b ∧ b ≤ 255) (hfb : -9223372036854775808 ≤ fuel ∧ fuel ≤ 9223372036854775807) :
    Calls Try.prog 10 #[.agg #[.slice A p.code.length c, .int .i64 p.size, .slice D p.data.length d], .int .i64 fuel] w fun e w' => ∃ vm' vw', e = .returned (.agg (resL (runZ p fuel) vm' vw').toArray) ∧ ResOwn w' w.heap.size vm' vw' (runZ p fuel) ∧ Below w.heap.size w w' := by
  cases h : p.right
  · exact seqRun_wrong A D c d p w fuel hp hd h
  · by_cases hl : fuel ≤ 100000
    · exact seqRun_lo A D c d p w fuel hp hd h hl hfb
    · exact seqRun_hi A D c d p w fuel hp hd h (by omega) hfb
end Go.Proofs.Ytdjllgdeijdieaa.Words

/- Two strings of bytes compared. Nothing here speaks of one program text. -/
namespace Go.Proofs.Ytdjllgdeijdieaa.Words
set_option maxRecDepth 100000
open Go.RowKit

theorem str_inj : ∀ {xs ys : List Int}, (∀ b ∈ xs, 0 ≤ b ∧ b ≤ 255) → (∀ b ∈ ys, 0 ≤ b ∧ b ≤ 255) → strOfNums xs = strOfNums ys → xs = ys := by
  intro xs ys hx hy h
  have h1 : (xs.map fun n => UInt8.ofNat n.toNat) = (ys.map fun n => UInt8.ofNat n.toNat) := by
    rw [← strOfNums_data, ← strOfNums_data, h]
  clear h
  induction xs generalizing ys with
  | nil => cases ys with
    | nil => rfl
    | cons b ys => simp at h1
  | cons a xs ih => cases ys with
    | nil => simp at h1
    | cons b ys =>
      simp only [List.map_cons, List.cons.injEq] at h1
      have ha := hx a (by simp)
      have hb := hy b (by simp)
      have e : a.toNat = b.toNat := by
        have := congrArg UInt8.toNat h1.1
        simp only [UInt8.toNat_ofNat'] at this
        omega
      rw [show a = b by omega, ih (fun b hb => hx b (by simp [hb])) (fun b hb => hy b (by simp [hb])) h1.2]
theorem str_eq {xs ys : List Int} (hx : ∀ b ∈ xs, 0 ≤ b ∧ b ≤ 255) (hy : ∀ b ∈ ys, 0 ≤ b ∧ b ≤ 255) : ((strOfNums xs).toList == (strOfNums ys).toList) = decide (xs = ys) := by
  by_cases h : xs = ys
  · subst h; simp
  · rw [decide_eq_false h, beq_eq_false_iff_ne]
    intro g
    rw [Lib.strOfNums_toList, Lib.strOfNums_toList] at g
    apply h
    apply str_inj hx hy
    have : (strOfNums xs).data.toList = (strOfNums ys).data.toList := by rw [strOfNums_data, strOfNums_data]; exact g
    have e : ∀ s : ByteArray, s = ⟨s.data⟩ := fun _ => rfl
    rw [e (strOfNums xs), e (strOfNums ys)]
    congr 1
    exact Array.toList_inj.1 this
end Go.Proofs.Ytdjllgdeijdieaa.Words

/- Several texts in one: BnkDeliv, WordPut, BytesStore, LinBox, RefBanks, RefStore, RefLoad2. -/
import Derived.Test.YthhoigkmmlkfcaaG04
import Derived.Test.YthhoigkmmlkfcaaG05
import Derived.Test.YthhoigkmmlkfcaaG06
import Derived.Test.YthhoigkmmlkfcaaG00
import Derived.Test.YthhoigkmmlkfcaaG01
import Derived.Test.YthhoigkmmlkfcaaG03
import Derived.LoopTactic
import Derived.LoopN

/- Contracts of package banks: what a load has of the memory, and where it goes. -/
namespace Go.Proofs.Ythhoigkmmlkfcaa.Words
set_option maxRecDepth 100000
open Go.RowKit
set_option linter.unusedVariables false
set_option linter.unusedSimpArgs false

set_option maxHeartbeats 1000000 in
theorem valueOf_any (A : Option Addr) (c n : Nat) (zs : List Int) (q : Rqs) (w : World) (h : Row w w.heap.size 1 (.slice A n c) n (bytesL zs)) (hz : ∀ b ∈ zs, 0 ≤ b ∧ b ≤ 255) (hq : q.Fits) :
    Calls Try.prog 42 #[.slice A n c, .agg #[.bool q.store, .int .i64 q.op, .int .i64 q.addr, .int .i64 q.size, .int .u32 q.val, .int .i64 q.left, .int .i64 q.reg, .int .i64 q.tag]] w fun e w' => e = .returned (.int .u32 (broughtZ zs q)) ∧ Below w.heap.size w w' := by
  by_cases h1 : q.addr < 0
  · have HE := Lib.hid (show broughtZ zs q = 0 by unfold broughtZ; rw [if_neg (by omega)])
    clear h hz
    go_enter Try.func42, Try.ntmps42
    go_wp2_with fail
    go_ret
    exact ⟨ret_int HE.out.symm, (Below.refl _ _).alloc (Nat.le_refl _) _⟩
  · by_cases h2 : 4294967295 < q.addr
    · have HE := Lib.hid (show broughtZ zs q = 0 by unfold broughtZ; rw [if_neg (by omega)])
      clear h hz
      go_enter Try.func42, Try.ntmps42
      go_wp2_with fail
      go_ret
      exact ⟨ret_int HE.out.symm, (Below.refl _ _).alloc (Nat.le_refl _) _⟩
    · have HE := Lib.hid (show broughtZ zs q = loadZ zs q.op q.addr by unfold broughtZ; rw [if_pos (by omega)])
      have HR := Lib.hid (fun (o : Obj) => (h.alloc (Nat.le_refl _) o))
      have hwr : IntKind.u32.wrap q.addr = q.addr := by show q.addr % 4294967296 = q.addr; omega
      have HZ := Lib.hid hz
      have k0 : 0 ≤ q.addr := by omega
      have k1 : q.addr ≤ 4294967295 := by omega
      clear h hz
      go_enter Try.func42, Try.ntmps42
      go_wp2_with fail
      try simp only [hwr]
      refine (load_any A c n w.heap.size zs q.op q.addr _ (HR.out _) (by simp) HZ.out k0 k1).mono ?_
      rintro e w1 ⟨rfl, hb⟩
      have HB := Lib.hid (Below.trans ((Below.refl w.heap.size w).alloc (Nat.le_refl _) _) (hb.mono (by simp)))
      clear hb
      go_wp2_with fail
      go_ret
      exact ⟨ret_int HE.out.symm, HB.out⟩
/-- What the machine's functions leave of a state in a variable. -/
def DoOut (w : World) (base ob : Nat) (v : Vs) (x' : Sta) (e : Ending) (w' : World) : Prop :=
  e = .returned (.tuple #[]) ∧ ∃ v', OutS base ob v' x' w' ∧ KeepS (fun j => j = ob ∨ v.ws.ownBlock = some j) w w' ∧ v'.table = v.table
def delivZ (x : Sta) (q : Rqs) (u : Int) : Sta :=
  if q.reg < 0 then { x with ldq := fillZ q.tag u x.ldq }
  else if 1 ≤ q.reg ∧ q.reg ≤ 15 then { x with a := { x.a with regs := x.a.regs.set q.reg.toNat u, ready := x.a.ready.set q.reg.toNat (wrap64 (x.cycle + 1)) } }
  else x
theorem done_load {x : Sta} {q : Rqs} (h : q.store = false) : doneZ x q = delivZ x q (broughtZ x.mem q) := by
  unfold doneZ delivZ
  rw [if_neg (by simp [h])]

set_option maxHeartbeats 4000000 in
theorem deliver_slot (x : Sta) (v : Vs) (q : Rqs) (u : Int) (base ob : Nat) (w : World) (hx : x.Ok) (hO : OutS base ob v x w) (hb : base ≤ w.heap.size) (hl : x.ldq.length ≤ 1000000) (hr : q.reg < 0) :
    Calls Try.prog 41 #[.pointer (some ⟨ob, 0, none⟩), .agg #[.bool q.store, .int .i64 q.op, .int .i64 q.addr, .int .i64 q.size, .int .u32 q.val, .int .i64 q.left, .int .i64 q.reg, .int .i64 q.tag], .int .u32 u] w (DoOut w base ob v (delivZ x q u)) := by
  rw [show delivZ x q u = { x with ldq := fillZ q.tag u x.ldq } by unfold delivZ; rw [if_pos hr]]
  obtain ⟨W, hW⟩ : ∃ W, W = w.alloc (.cells #[.bool q.store, .int .i64 q.op, .int .i64 q.addr, .int .i64 q.size, .int .u32 q.val, .int .i64 q.left, .int .i64 q.reg, .int .i64 q.tag] 54) := ⟨_, rfl⟩
  have hbW : Below w.heap.size w W := by rw [hW]; exact (Below.refl _ _).alloc (Nat.le_refl _) _
  have HQ : Hid (Box W w.heap.size (rqsL q)) := by rw [hW]; exact Box.new w (rqsL q) _
  have HO := Lib.hid (hO.below hbW)
  have HBW := Lib.hid hbW
  have HX := Lib.hid hx
  have hob : ob < W.heap.size := HO.out.bx.lt
  have hqb : w.heap.size < W.heap.size := HQ.out.lt
  obtain ⟨A0, c0, e0⟩ := (Row.of_own hO.own.ldq).form
  have t6 : W.cell? ⟨w.heap.size, 6, none⟩ = some (.int .i64 q.reg) := HQ.out.cell rfl
  clear hO hbW hx
  go_enter Try.func41, Try.ntmps41
  go_wp2_with (first | (rw [← hW]; clear hW))
  have HF1 := Lib.hid (fun (y : World) (h : Kept W y) => h.cell hob (show W.cell? ⟨ob, 77, none⟩ = some (.slice A0 x.ldq.length c0) by rw [← e0]; exact HO.out.bx.cell (sta_ldq HX.out)))
  have HF2 := Lib.hid (fun (y : World) (h : Kept W y) => h.cell hqb (show W.cell? ⟨w.heap.size, 7, none⟩ = some (.int .i64 q.tag) from HQ.out.cell rfl))
  refine wp_region_last [(0, true), (1, true), (2, true), (3, true), (4, true), (5, true), (6, true), (7, true), (8, false), (9, true), (10, true), (11, true), (12, true), (13, true)] 14 [11]
    rfl (by kernel_rfl) (by kernel_rfl) rfl (by kernel_rfl) (by kernel_rfl) (by kernel_rfl) (by kernel_rfl) (Kept W) ?_
  simp only [List.map_cons, List.map_nil, List.getElem?_toArray, List.getElem?_cons_succ, List.getElem?_cons_zero]
  have hS0 : Kept W W.drew := (Kept.refl W).drew
  iterate 8 (refine lin_take (v := ?_) hS0 (by rfl) ?_ ?_; rotate_left; (intro y hy; have q1 := HF1.out y hy; have q2 := HF2.out y hy; go_simp; try (with_reducible rfl)); (try simp only [Act.put, List.setIfInBounds_toArray, List.set_cons_zero, List.set_cons_succ]))
  refine lin_call hS0 (by rfl) (fun K hK => ?_)
  go_simp
  refine (fillS_any A0 c0 x.ldq q.tag u _ (by have h9 := Row.of_own (HO.out.below (Y := W.drew) (Below.refl _ _).drew).own.ldq; rw [e0] at h9; exact h9) hl).mono ?_
  rintro e y1 ⟨u1, rfl, o1, b1⟩
  have hS1 : Kept W y1 := hS0.to b1
  have O1 := Lib.hid ((HO.out.below (Y := W.drew) (Below.refl _ _).drew).below b1)
  have N1 := Lib.hid o1
  have hu1 : u1.ownBlock ≠ some ob := fun e => by have := (o1.lt _ e).1; have : ob < W.drew.heap.size := hob; omega
  have HU := Lib.hid hu1
  have HBY := Lib.hid (HBW.out.trans ((Below.drew (Below.refl _ _)).trans b1 |>.mono HBW.out.size))
  clear b1 o1 hu1
  go_wp2_with fail
  refine hK.out _ _ hS1 (fun _ => ?_)
  clear hK K hS0
  try simp only [Act.put, List.setIfInBounds_toArray, List.set_cons_zero, List.set_cons_succ]
  iterate 5 (refine lin_take (v := ?_) hS1 (by rfl) ?_ ?_; rotate_left; (intro y hy; go_simp; try (with_reducible rfl)); (try simp only [Act.put, List.setIfInBounds_toArray, List.set_cons_zero, List.set_cons_succ]))
  refine last_put_cell (by rfl) 34 _ _ rfl ob 77 u1 (by go_simp) (by go_simp) (own_one N1.out) _ O1.out.bx (by rw [staL_len HX.out]; omega) (by kernel_rfl) ?_
  intro y2 hbx hg
  rw [set_ldq HX.out] at hbx
  have hbx : Box y2 ob (staL { x with ldq := fillZ q.tag u x.ldq } { v with ldq := u1 }) := hbx
  have S2 := Lib.hid (O1.out.put hbx hg (O1.out.own.set_ldq (m := fillZ q.tag u x.ldq) (own_less N1.out (Nat.le_trans hb HBW.out.size))) (off_ldq O1.out.off HU.out))
  have KK : Hid (KeepS (fun j => j = ob ∨ v.ws.ownBlock = some j) w y2) := (KeepS.of_below HBY.out).trans (KeepS.of_grown hg (fun k e => by injection e with e; exact .inl e.symm))
  clear hbx hg
  go_wp2_with fail
  first | exact bodyPost_ret (v := .tuple #[]) (by simp [results, Try.results41, go_sem]) rfl ⟨rfl, _, S2.out, KK.out, rfl⟩ | exact bodyPost_end (v := .tuple #[]) (by simp [results, Try.results41, go_sem]) rfl ⟨rfl, _, S2.out, KK.out, rfl⟩

set_option maxHeartbeats 4000000 in
theorem deliver_reg (x : Sta) (v : Vs) (q : Rqs) (u : Int) (base ob : Nat) (w : World) (hx : x.Ok) (hO : OutS base ob v x w) (hb : base ≤ w.heap.size) (hr : 1 ≤ q.reg) (hr2 : q.reg ≤ 15) :
    Calls Try.prog 41 #[.pointer (some ⟨ob, 0, none⟩), .agg #[.bool q.store, .int .i64 q.op, .int .i64 q.addr, .int .i64 q.size, .int .u32 q.val, .int .i64 q.left, .int .i64 q.reg, .int .i64 q.tag], .int .u32 u] w (DoOut w base ob v (delivZ x q u)) := by
  obtain ⟨k, hk⟩ : ∃ k : Nat, q.reg = k := ⟨q.reg.toNat, by omega⟩
  rw [show delivZ x q u = { x with a := { x.a with regs := x.a.regs.set k u, ready := x.a.ready.set k (wrap64 (x.cycle + 1)) } } by unfold delivZ; rw [if_neg (by omega), if_pos ⟨hr, hr2⟩, show q.reg.toNat = k by omega]]
  obtain ⟨W, hW⟩ : ∃ W, W = w.alloc (.cells #[.bool q.store, .int .i64 q.op, .int .i64 q.addr, .int .i64 q.size, .int .u32 q.val, .int .i64 q.left, .int .i64 q.reg, .int .i64 q.tag] 54) := ⟨_, rfl⟩
  have hbW : Below w.heap.size w W := by rw [hW]; exact (Below.refl _ _).alloc (Nat.le_refl _) _
  have HQ : Hid (Box W w.heap.size (rqsL q)) := by rw [hW]; exact Box.new w (rqsL q) _
  have HO := Lib.hid (hO.below hbW)
  have HBW := Lib.hid hbW
  have HX := Lib.hid hx
  have hob : ob < W.heap.size := HO.out.bx.lt
  have hqb : w.heap.size < W.heap.size := HQ.out.lt
  have hkr : k < 16 := by omega
  have HNE : Hid (¬ w.heap.size = ob) := fun e => by have := hO.bx.lt; omega
  have t6 : W.cell? ⟨w.heap.size, 6, none⟩ = some (.int .i64 k) := by rw [← hk]; exact HQ.out.cell rfl
  have HK := Lib.hid hk
  have kr0 : (1 : Int) ≤ k := by omega
  have kr1 : (k : Int) < 16 := by omega
  have kr2 : (0 : Int) ≤ k := by omega
  clear hO hbW hx hr hr2
  rw [hk] at hW ⊢
  clear hk
  go_enter Try.func41, Try.ntmps41
  go_wp2_with (first | (rw [← hW]; clear hW))
  have HF2 := Lib.hid (fun (y : World) (h : KeepS (fun j => j = ob) W y) => h.cell hqb HNE.out t6)
  refine wp_region_last [(0, true), (1, true), (2, true), (3, true), (4, true), (5, true), (6, true), (7, true)] 8 []
    rfl (by kernel_rfl) (by kernel_rfl) rfl (by kernel_rfl) (by kernel_rfl) (by kernel_rfl) (by kernel_rfl) (KeepS (fun j => j = ob) W) ?_
  simp only [List.map_cons, List.map_nil, List.getElem?_toArray, List.getElem?_cons_succ, List.getElem?_cons_zero]
  have hS0 : KeepS (fun j => j = ob) W W.drew := (KeepS.refl _ _).drew
  iterate 8 (refine lin_take (v := ?_) hS0 (by rfl) ?_ ?_; rotate_left; (intro y hy; have q2 := HF2.out y hy; go_simp; try (with_reducible rfl)); (try simp only [Act.put, List.setIfInBounds_toArray, List.set_cons_zero, List.set_cons_succ]))
  refine last_put_cell (by rfl) 27 _ _ rfl ob (1 + k) (.int .u32 u) (by go_simp) (by go_simp) rfl _ HO.out.bx.drew (by rw [staL_len HX.out]; omega) (by kernel_rfl) ?_
  intro y2 hbx hg
  rw [set_areg HX.out hkr] at hbx
  have S2 := Lib.hid ((HO.out.below (Y := W.drew) (Below.refl _ _).drew).put hbx hg ((HO.out.own.below (Below.refl _ _).drew).same rfl rfl rfl rfl rfl rfl rfl rfl rfl) HO.out.off)
  have KK : Hid (KeepS (fun j => j = ob) W y2) := hS0.trans (KeepS.of_grown hg (fun k e => by injection e with e; exact e.symm))
  clear hbx hg hS0 HF2
  have HXa : Hid (Sta.Ok { x with a := { x.a with regs := x.a.regs.set k u } }) := ⟨HX.out.a.setreg k u, HX.out.e⟩
  have t7 : y2.cell? ⟨w.heap.size, 6, none⟩ = some (.int .i64 k) := KK.out.cell hqb HNE.out t6
  have t8 : y2.cell? ⟨ob, 0, none⟩ = some (.int .i64 x.cycle) := S2.out.bx.cell rfl
  have hob2 : ob < y2.heap.size := S2.out.bx.lt
  have hqb2 : w.heap.size < y2.heap.size := Nat.lt_of_lt_of_le hqb KK.out.size
  clear t6
  go_wp2_with fail
  have HF3 := Lib.hid (fun (y : World) (h : Kept y2 y) => h.cell hqb2 t7)
  have HF4 := Lib.hid (fun (y : World) (h : Kept y2 y) => h.cell hob2 t8)
  refine wp_region_last [(0, true), (1, true), (2, true), (3, true), (4, true), (5, true), (6, true), (7, true), (8, true), (9, true), (10, true), (11, true)] 12 []
    rfl (by kernel_rfl) (by kernel_rfl) rfl (by kernel_rfl) (by kernel_rfl) (by kernel_rfl) (by kernel_rfl) (Kept y2) ?_
  simp only [List.map_cons, List.map_nil, List.getElem?_toArray, List.getElem?_cons_succ, List.getElem?_cons_zero]
  have hS1 : Kept y2 y2.drew := (Kept.refl y2).drew
  iterate 12 (refine lin_take (v := ?_) hS1 (by rfl) ?_ ?_; rotate_left; (intro y hy; have q3 := HF3.out y hy; have q4 := HF4.out y hy; go_simp; try (with_reducible rfl)); (try simp only [Act.put, List.setIfInBounds_toArray, List.set_cons_zero, List.set_cons_succ]))
  refine last_put_cell (by rfl) 3 _ _ rfl ob (17 + k) (.int .i64 (wrap64 (x.cycle + 1))) (by go_simp) (by go_simp; unfold wrap64; exact IntKind.wrap_i64 _) rfl _ S2.out.bx.drew (by rw [staL_len HXa.out]; omega) (by kernel_rfl) ?_
  intro y4 hbx hg
  rw [set_aready HXa.out hkr] at hbx
  have S4 := Lib.hid ((S2.out.below (Y := y2.drew) (Below.refl _ _).drew).put hbx hg ((S2.out.own.below (Below.refl _ _).drew).same rfl rfl rfl rfl rfl rfl rfl rfl rfl) S2.out.off)
  have KE : Hid (KeepS (fun j => j = ob ∨ v.ws.ownBlock = some j) w y4) := (KeepS.of_below HBW.out).trans ((KK.out.mono (fun k e => .inl e)).drew.trans (KeepS.of_grown hg (fun k e => by injection e with e; exact .inl e.symm)))
  clear hbx hg
  go_wp2_with fail
  first | exact bodyPost_ret (v := .tuple #[]) (by simp [results, Try.results41, go_sem]) rfl ⟨rfl, _, S4.out, KE.out, rfl⟩ | exact bodyPost_end (v := .tuple #[]) (by simp [results, Try.results41, go_sem]) rfl ⟨rfl, _, S4.out, KE.out, rfl⟩
set_option maxHeartbeats 1000000 in
theorem deliver_not (x : Sta) (v : Vs) (q : Rqs) (u : Int) (base ob : Nat) (w : World) (hO : OutS base ob v x w) (h0 : ¬ q.reg < 0) (h1 : ¬ (1 ≤ q.reg ∧ q.reg ≤ 15)) :
    Calls Try.prog 41 #[.pointer (some ⟨ob, 0, none⟩), .agg #[.bool q.store, .int .i64 q.op, .int .i64 q.addr, .int .i64 q.size, .int .u32 q.val, .int .i64 q.left, .int .i64 q.reg, .int .i64 q.tag], .int .u32 u] w (DoOut w base ob v (delivZ x q u)) := by
  rw [show delivZ x q u = x by unfold delivZ; rw [if_neg h0, if_neg h1]]
  have HO := Lib.hid hO
  clear hO
  rcases Int.lt_or_le q.reg 1 with h2 | h2
  · have h3 : q.reg = 0 := by omega
    have k0 : ¬ (1 ≤ q.reg) := by omega
    go_enter Try.func41, Try.ntmps41
    rw [h3]
    go_wp2_with fail
    first | exact bodyPost_ret (v := .tuple #[]) (by simp [results, Try.results41, go_sem]) rfl ⟨rfl, v, HO.out.below ((Below.refl _ _).alloc (Nat.le_refl _) _), KeepS.of_below ((Below.refl _ _).alloc (Nat.le_refl _) _), rfl⟩ | exact bodyPost_end (v := .tuple #[]) (by simp [results, Try.results41, go_sem]) rfl ⟨rfl, v, HO.out.below ((Below.refl _ _).alloc (Nat.le_refl _) _), KeepS.of_below ((Below.refl _ _).alloc (Nat.le_refl _) _), rfl⟩
  · have k0 : ¬ (q.reg < 16) := by omega
    clear h1
    go_enter Try.func41, Try.ntmps41
    go_wp2_with fail
    first | exact bodyPost_ret (v := .tuple #[]) (by simp [results, Try.results41, go_sem]) rfl ⟨rfl, v, HO.out.below ((Below.refl _ _).alloc (Nat.le_refl _) _), KeepS.of_below ((Below.refl _ _).alloc (Nat.le_refl _) _), rfl⟩ | exact bodyPost_end (v := .tuple #[]) (by simp [results, Try.results41, go_sem]) rfl ⟨rfl, v, HO.out.below ((Below.refl _ _).alloc (Nat.le_refl _) _), KeepS.of_below ((Below.refl _ _).alloc (Nat.le_refl _) _), rfl⟩
theorem deliver_any (x : Sta) (v : Vs) (q : Rqs) (u : Int) (base ob : Nat) (w : World) (hx : x.Ok) (hO : OutS base ob v x w) (hb : base ≤ w.heap.size) (hl : x.ldq.length ≤ 1000000) :
    Calls Try.prog 41 #[.pointer (some ⟨ob, 0, none⟩), .agg #[.bool q.store, .int .i64 q.op, .int .i64 q.addr, .int .i64 q.size, .int .u32 q.val, .int .i64 q.left, .int .i64 q.reg, .int .i64 q.tag], .int .u32 u] w (DoOut w base ob v (delivZ x q u)) := by
  by_cases h0 : q.reg < 0
  · exact deliver_slot x v q u base ob w hx hO hb hl h0
  · by_cases h1 : 1 ≤ q.reg ∧ q.reg ≤ 15
    · exact deliver_reg x v q u base ob w hx hO hb h1.1 h1.2
    · exact deliver_not x v q u base ob w hO h0 h1
end Go.Proofs.Ythhoigkmmlkfcaa.Words

/- Contract of word.Put: the bytes handed in, and behind them the word's four bytes, the lowest first, in memory of the call's own. Condition: with four bytes more it is no longer than 2^47. -/
namespace Go.Proofs.Ythhoigkmmlkfcaa.Words
set_option maxRecDepth 100000
open Go.RowKit


/-- The four bytes of a word. -/
def quad (x : Int) : List Value := [.int .u8 (x % 256), .int .u8 (x / 256 % 256), .int .u8 (x / 65536 % 256), .int .u8 (x / 16777216)]
theorem quad_one (x : Int) : ∀ u ∈ quad x, u.oneCell' = true := by
  intro u hu
  simp only [quad, List.mem_cons, List.not_mem_nil, or_false] at hu
  rcases hu with rfl | rfl | rfl | rfl <;> rfl
theorem quad_len (x : Int) : (quad x).length = 4 := rfl

theorem put_form {w : World} {A : Option Addr} {n c : Nat} {xs : List Value} (x : Int) (h0 : 0 ≤ x) (h1 : x < 4294967296)
    (hr : Row w w.heap.size 1 (.slice A n c) n xs) (h1c : ∀ u ∈ xs, u.oneCell' = true) (hb : n + 4 ≤ 140737488355328) :
    Calls Try.prog 47 #[.slice A n c, .int .u32 x] w fun e w' =>
      e = .returned (.slice (some ⟨w.heap.size, 0, none⟩) (n + 4) (n + 4)) ∧ w'.ownsRow w.heap.size 5 1 (.slice (some ⟨w.heap.size, 0, none⟩) (n + 4) (n + 4)) (n + 4) (xs ++ quad x) ∧ Below w.heap.size w w' := by
  obtain ⟨i0, hi, hz0, hz1, hz2⟩ := info_parts info_u8
  have hl := hr.len
  have hcap := hr.cap
  have hby : i0.bytes * (n + 4) ≤ 281474976710656 := by rw [hz2]; omega
  have HZ := Lib.hid hz2
  clear hz2
  go_enter Try.func47, Try.ntmps47
  go_wp2_with (first
    | (at_make; refine wpList_make_own _ rfl _ _ 39 rfl w.heap.size 5 i0 (.int .u8 0) 1 Try.underlying39 hi hz0 hz1 _ _ _ (n + 4) rfl rfl (by omega) hby (by unfold maxLen; omega) (Nat.le_refl _) ?_; intro w1 hown1 hg1; have hb1 : Below w.heap.size w w1 := (Below.refl _ _).grown hg1 (Nat.le_refl _) (fun _ h => by cases h))
    | (at_builtin; refine wpList_append_fits_any _ rfl (.tmp 10) (.tmp 11) 39 rfl w.heap.size 5 i0 1 Try.underlying39 hi hz1 w.heap.size 0 (n + 4) [] rfl hown1 A n c xs rfl hl hr.bare (hr.below hb1).cells h1c (by omega) ?_; intro w2 hown2 hg2; simp only [Nat.zero_add, List.nil_append] at hown2)
    | (at_builtin; refine wpList_append_fits _ rfl (.tmp 13) (.tmp 25) 39 rfl w.heap.size 5 i0 1 Try.underlying39 hi hz1 w.heap.size n (n + 4) xs rfl (hown2.alloc _) ⟨w2.heap.size, 0, none⟩ 4 4 (quad x) rfl (quad_len x) (new_cells w2 _ _ _ rfl) (quad_one x) (by omega) ?_; intro w3 hown3 hg3))
  go_ret
  have hb2 := hb1.grown hg2 hb1.size own_ge'
  exact ⟨rfl, hown3, (hb2.alloc hb2.size _).grown hg3 (by have := hb2.size; simp; omega) own_ge'⟩

/-- The bytes, and behind them the word's, in memory of the call's own. -/
theorem put_any {w : World} {v : Value} {n : Nat} {xs : List Value} (x : Int) (h0 : 0 ≤ x) (h1 : x < 4294967296)
    (hr : Row w w.heap.size 1 v n xs) (h1c : ∀ u ∈ xs, u.oneCell' = true) (hb : n + 4 ≤ 140737488355328) :
    Calls Try.prog 47 #[v, .int .u32 x] w fun e w' =>
      e = .returned (.slice (some ⟨w.heap.size, 0, none⟩) (n + 4) (n + 4)) ∧ w'.ownsRow w.heap.size 5 1 (.slice (some ⟨w.heap.size, 0, none⟩) (n + 4) (n + 4)) (n + 4) (xs ++ quad x) ∧ Below w.heap.size w w' := by
  obtain ⟨A, c, rfl⟩ := hr.form
  exact put_form x h0 h1 hr h1c hb
end Go.Proofs.Ythhoigkmmlkfcaa.Words

/- Contract of bytes.Store. -/
namespace Go.Proofs.Ythhoigkmmlkfcaa.Words
set_option maxRecDepth 100000
open Go.RowKit
set_option linter.unusedVariables false

theorem splice_quad1 (zs : List Int) (k n : Nat) (v : Int) (hl : zs.length = n) (h : k + 1 ≤ n) : splice (zs.map (Value.int .u8)) k (((quad v).take 1).take (n - k)) = (put1 zs k v).map (Value.int .u8) := by
  rw [List.take_of_length_le (l := (quad v).take 1) (by simp [quad]; omega)]
  show splice _ _ [_] = _
  rw [splice_cons _ _ _ _ (by simp; omega), splice_nil, put1, List.map_set]
theorem splice_quad2 (zs : List Int) (k n : Nat) (v : Int) (hl : zs.length = n) (h : k + 2 ≤ n) : splice (zs.map (Value.int .u8)) k (((quad v).take 2).take (n - k)) = (put2 zs k v).map (Value.int .u8) := by
  rw [List.take_of_length_le (l := (quad v).take 2) (by simp [quad]; omega)]
  show splice _ _ [_, _] = _
  rw [splice_cons _ _ _ _ (by simp; omega), splice_cons _ _ _ _ (by simp; omega), splice_nil, put2, put1, List.map_set, List.map_set]
theorem splice_quad4 (zs : List Int) (k n : Nat) (v : Int) (hv : 0 ≤ v ∧ v ≤ 4294967295) (hl : zs.length = n) (h : k + 4 ≤ n) : splice (zs.map (Value.int .u8)) k (((quad v).take 4).take (n - k)) = (put4 zs k v).map (Value.int .u8) := by
  rw [List.take_of_length_le (l := (quad v).take 4) (by simp [quad]; omega)]
  show splice _ _ [_, _, _, _] = _
  rw [splice_cons _ _ _ _ (by simp; omega), splice_cons _ _ _ _ (by simp; omega), splice_cons _ _ _ _ (by simp; omega), splice_cons _ _ _ _ (by simp; omega), splice_nil, put4, put2, put1, List.map_set, List.map_set, List.map_set, List.map_set, show v / 16777216 % 256 = v / 16777216 by omega]

section
variable (A : Option Addr) (c n : Nat) (zs : List Int) (v : Int) (w : World)

set_option maxHeartbeats 1000000 in
theorem store_no (size addr : Int) (h : Row w w.heap.size 1 (.slice A n c) n (zs.map (Value.int .u8))) (hn : n ≤ 140737488355328) (hs : -9223372036854775808 ≤ size ∧ size ≤ 9223372036854775807) (hq : storeOk size addr n = false) :
    Calls Try.prog 43 #[.slice A n c, .agg #[.int .i64 addr, .int .i64 size, .int .u32 v]] w fun e w' => ∃ v', e = .returned v' ∧ w'.ownsRow w.heap.size 5 1 v' n ((zs).map (Value.int .u8)) ∧ Below w.heap.size w w' := by
  obtain ⟨i0, hi, hz0, hz1, hz2⟩ := info_parts info_u8
  have HZ2 := Lib.hid hz2
  clear hz2
  have hl : zs.length = n := by have := h.len; simpa using this
  obtain ⟨u1, u2⟩ := h.cap
  have hR := h.alloc (Nat.le_refl _) (.cells #[.int .i64 addr, .int .i64 size, .int .u32 v] 68)
  have hbase : w.heap.size + 1 ≤ (w.alloc (.cells #[.int .i64 addr, .int .i64 size, .int .u32 v] 68)).heap.size := by simp
  have HW := Lib.hid ((Below.refl w.heap.size w).alloc (Nat.le_refl _) (.cells #[.int .i64 addr, .int .i64 size, .int .u32 v] 68))
  have c0 : (w.alloc (.cells #[.int .i64 addr, .int .i64 size, .int .u32 v] 68)).cell? ⟨w.heap.size, 0, none⟩ = some (.int .i64 addr) := by go_simp
  have c1 : (w.alloc (.cells #[.int .i64 addr, .int .i64 size, .int .u32 v] 68)).cell? ⟨w.heap.size, 1, none⟩ = some (.int .i64 size) := by go_simp
  have c2 : (w.alloc (.cells #[.int .i64 addr, .int .i64 size, .int .u32 v] 68)).cell? ⟨w.heap.size, 2, none⟩ = some (.int .u32 v) := by go_simp
  have HQ := Lib.hid hq
  clear hq
  go_enter Try.func43, Try.ntmps43
  go_wp2_with (at_builtin; refine wpList_append_row _ rfl (.const (.slice none 0 0)) (.tmp 6) 39 rfl (w.heap.size + 1) 5 i0 (.int .u8 0) 1 1 Try.underlying39 hi hz0 hz1 HZ2.out rfl (by omega) (.slice none 0 0) 0 [] rfl (World.ownsRow_nil _ _ _ _) _ _ n _ rfl hR (u8_one _) (by unfold maxLen; omega) (by omega) hbase ?_; intro v1 w1 hown1 hg1; simp only [Nat.zero_add, List.nil_append] at hown1; have k1 : Below (w.heap.size + 1) (w.alloc (.cells #[.int .i64 addr, .int .i64 size, .int .u32 v] 68)) w1 := Below.grown (Below.refl _ _) hg1 hbase (fun k hk => by cases hk); have d0 := below_cell k1 (Nat.lt_succ_self _) c0; have d1 := below_cell k1 (Nat.lt_succ_self _) c1; have d2 := below_cell k1 (Nat.lt_succ_self _) c2)
  refine (bfits_any addr size v n _ hs (by omega)).mono ?_; rintro e w2 ⟨rfl, hb2⟩
  rw [HQ.out]
  go_wp2_with fail
  go_ret
  exact ⟨_, rfl, own_base (own_below hown1 hb2) (Nat.le_succ _), (HW.out.trans (k1.mono (Nat.le_succ _))).trans (hb2.mono (by have := k1.size; simp at this; omega))⟩

set_option maxHeartbeats 1000000 in
theorem store_yes1 (k : Nat) (h : Row w w.heap.size 1 (.slice A n c) n (zs.map (Value.int .u8))) (hn : n ≤ 140737488355328) (hk : (k : Int) ≤ 4294967295) (hv : 0 ≤ v ∧ v ≤ 4294967295) (hck : checkZ 1 k n = 0) :
    Calls Try.prog 43 #[.slice A n c, .agg #[.int .i64 (k : Int), .int .i64 1, .int .u32 v]] w fun e w' => ∃ v', e = .returned v' ∧ w'.ownsRow w.heap.size 5 1 v' n ((put1 zs k v).map (Value.int .u8)) ∧ Below w.heap.size w w' := by
  obtain ⟨_, hr⟩ := checkZ_zero hck
  have HQ := Lib.hid (show storeOk 1 k n = true from decide_eq_true ⟨by omega, by omega, hk, hck⟩)
  have hkn : k + 1 ≤ n := by omega
  have hk0 : (0 : Int) ≤ k := by omega
  obtain ⟨v0, v9⟩ := hv
  clear hck
  obtain ⟨i0, hi, hz0, hz1, hz2⟩ := info_parts info_u8
  have HZ2 := Lib.hid hz2
  clear hz2
  have hl : zs.length = n := by have := h.len; simpa using this
  obtain ⟨u1, u2⟩ := h.cap
  have hR := h.alloc (Nat.le_refl _) (.cells #[.int .i64 (k : Int), .int .i64 1, .int .u32 v] 68)
  have hbase : w.heap.size + 1 ≤ (w.alloc (.cells #[.int .i64 (k : Int), .int .i64 1, .int .u32 v] 68)).heap.size := by simp
  have HW := Lib.hid ((Below.refl w.heap.size w).alloc (Nat.le_refl _) (.cells #[.int .i64 (k : Int), .int .i64 1, .int .u32 v] 68))
  have c0 : (w.alloc (.cells #[.int .i64 (k : Int), .int .i64 1, .int .u32 v] 68)).cell? ⟨w.heap.size, 0, none⟩ = some (.int .i64 (k : Int)) := by go_simp
  have c1 : (w.alloc (.cells #[.int .i64 (k : Int), .int .i64 1, .int .u32 v] 68)).cell? ⟨w.heap.size, 1, none⟩ = some (.int .i64 1) := by go_simp
  have c2 : (w.alloc (.cells #[.int .i64 (k : Int), .int .i64 1, .int .u32 v] 68)).cell? ⟨w.heap.size, 2, none⟩ = some (.int .u32 v) := by go_simp
  go_enter Try.func43, Try.ntmps43
  go_wp2_with (at_builtin; refine wpList_append_row _ rfl (.const (.slice none 0 0)) (.tmp 6) 39 rfl (w.heap.size + 1) 5 i0 (.int .u8 0) 1 1 Try.underlying39 hi hz0 hz1 HZ2.out rfl (by omega) (.slice none 0 0) 0 [] rfl (World.ownsRow_nil _ _ _ _) _ _ n _ rfl hR (u8_one _) (by unfold maxLen; omega) (by omega) hbase ?_; intro v1 w1 hown1 hg1; simp only [Nat.zero_add, List.nil_append] at hown1; have k1 : Below (w.heap.size + 1) (w.alloc (.cells #[.int .i64 (k : Int), .int .i64 1, .int .u32 v] 68)) w1 := Below.grown (Below.refl _ _) hg1 hbase (fun k hk => by cases hk); have d0 := below_cell k1 (Nat.lt_succ_self _) c0; have d1 := below_cell k1 (Nat.lt_succ_self _) c1; have d2 := below_cell k1 (Nat.lt_succ_self _) c2)
  refine (bfits_any k 1 v n _ (by omega) (by omega)).mono ?_; rintro e w2 ⟨rfl, hb2⟩
  rw [HQ.out]
  obtain ⟨g, cap, rfl, hg, hgs⟩ := own_form hown1 (by omega)
  have hz1 : w.heap.size + 1 ≤ w1.heap.size := by have := k1.size; simp at this; omega
  have e0 := below_cell hb2 (by omega) d0
  have e1 := below_cell hb2 (by omega) d1
  have e2 := below_cell hb2 (by omega) d2
  have hown2 := own_below hown1 hb2
  obtain ⟨cur, hgcur, _, hcap1, hcap2, _⟩ := own_block hown2
  have hcap3 : cap ≤ 9223372036854775807 := by unfold maxLen at hcap2; omega
  have HB := Lib.hid ((HW.out.trans (k1.mono (Nat.le_succ _))).trans (hb2.mono (by have := k1.size; simp at this; omega)))
  have hz2 : w.heap.size < w2.heap.size := by have := hb2.size; omega
  clear hb2 d0 d1 d2 c0 c1 c2 k1 hR hown1
  go_wp2_with fail
  have f0 : ∀ x, Below (w.heap.size + 1) w2 x → _ := fun x hx => below_cell hx (Nat.lt_succ_self _) e0
  have f1 : ∀ x, Below (w.heap.size + 1) w2 x → _ := fun x hx => below_cell hx (Nat.lt_succ_self _) e1
  have f2 : ∀ x, Below (w.heap.size + 1) w2 x → _ := fun x hx => below_cell hx (Nat.lt_succ_self _) e2
  have i0' : Kept w2 w2.drew := (Kept.refl w2).drew
  have j0 : Below (w.heap.size + 1) w2 w2.drew := Below.drew (Below.refl _ _)
  clear e0 e1 e2
  refine wp_region_lin [(0, true), (1, true), (2, true), (3, true), (4, true), (5, true), (7, true), (8, true), (6, false), (9, true), (10, false)]
    (by kernel_rfl) (by kernel_rfl) rfl (by kernel_rfl) (Below (w.heap.size + 1) w2) ?_
  simp only [List.map_cons, List.map_nil, List.getElem?_toArray, List.getElem?_cons_succ, List.getElem?_cons_zero]
  iterate 3 (refine lin_take (v := ?_) (by assumption) (by rfl) ?_ ?_; rotate_left; (intro x hx; (try dsimp only at hx); go_simp; try (with_reducible rfl)); (simp only [Act.put, List.setIfInBounds_toArray, List.set_cons_zero, List.set_cons_succ]))
  refine lin_take (v := .slice (some ⟨g, k, none⟩) (n - k) (cap - k)) (by assumption) (by rfl) (fun x hx => ?_) ?_
  · go_simp
    rw [if_pos (show k ≤ n by omega), if_neg (show ¬ cap = k by omega)]
  simp only [Act.put, List.setIfInBounds_toArray, List.set_cons_zero, List.set_cons_succ]
  iterate 4 (refine lin_take (v := ?_) (by assumption) (by rfl) ?_ ?_; rotate_left; (intro x hx; (try dsimp only at hx); go_simp; try (with_reducible rfl)); (simp only [Act.put, List.setIfInBounds_toArray, List.set_cons_zero, List.set_cons_succ]))
  refine lin_call (by assumption) (by rfl) (fun K hK => ?_)
  go_simp
  refine (put_any v v0 (by omega) (Row.nil _ _ _) (by simp) (by omega)).mono ?_; rintro e x3 ⟨rfl, own3, hb3⟩
  have i3 := i0'.to hb3
  have j3 : Below (w.heap.size + 1) w2 x3 := Below.mono i3 hz2
  go_wp2_with fail
  refine hK.out _ _ j3 (fun _ => ?_)
  clear hK K
  try simp only [Act.put, List.setIfInBounds_toArray, List.set_cons_zero, List.set_cons_succ]
  have hg2 : g < w2.heap.size := by have := (Array.getElem?_eq_some_iff.1 hgcur).1; exact this
  have own4 := own_below hown2 i3
  have row4 := (Row.of_own own3)
  clear hb3 own3
  refine lin_take (v := .slice (some ⟨w2.heap.size, 0, none⟩) 1 4) (by assumption) (by rfl) (fun x hx => ?_) ?_
  · go_simp
  simp only [Act.put, List.setIfInBounds_toArray, List.set_cons_zero, List.set_cons_succ]
  refine lin_call (by assumption) (by rfl) (fun K hK => ?_)
  refine wp_copy_rows (.tmp 17) (.tmp 23) 39 39 rfl 5 Try.underlying39 (by kernel_rfl) (w.heap.size + 1) g n cap k (n - k) (cap - k) _ own4 (by go_simp) _ 1 4 _ _ (by go_simp) (row4.cut (k := 0) (m := 1) (by omega) (by omega)) (fun u hu => quad_one v u (List.mem_of_mem_take (by simpa using hu))) (by omega) ?_
  intro x5 own5 hb5
  refine hK.out _ _ (j3.trans (hb5.mono hg)) (fun _ => ?_)
  clear hK K
  try simp only [Act.put, List.setIfInBounds_toArray, List.set_cons_zero, List.set_cons_succ]
  refine lin_done ?_
  go_wp2_with fail
  go_ret
  rw [List.nil_append, List.drop_zero, splice_quad1 zs k n v hl (by omega)] at own5
  exact ⟨_, rfl, own_base own5 (Nat.le_succ _), HB.out.trans ((j3.trans (hb5.mono hg)).mono (Nat.le_succ _))⟩

set_option maxHeartbeats 1000000 in
theorem store_yes2 (k : Nat) (h : Row w w.heap.size 1 (.slice A n c) n (zs.map (Value.int .u8))) (hn : n ≤ 140737488355328) (hk : (k : Int) ≤ 4294967295) (hv : 0 ≤ v ∧ v ≤ 4294967295) (hck : checkZ 2 k n = 0) :
    Calls Try.prog 43 #[.slice A n c, .agg #[.int .i64 (k : Int), .int .i64 2, .int .u32 v]] w fun e w' => ∃ v', e = .returned v' ∧ w'.ownsRow w.heap.size 5 1 v' n ((put2 zs k v).map (Value.int .u8)) ∧ Below w.heap.size w w' := by
  obtain ⟨_, hr⟩ := checkZ_zero hck
  have HQ := Lib.hid (show storeOk 2 k n = true from decide_eq_true ⟨by omega, by omega, hk, hck⟩)
  have hkn : k + 2 ≤ n := by omega
  have hk0 : (0 : Int) ≤ k := by omega
  obtain ⟨v0, v9⟩ := hv
  clear hck
  obtain ⟨i0, hi, hz0, hz1, hz2⟩ := info_parts info_u8
  have HZ2 := Lib.hid hz2
  clear hz2
  have hl : zs.length = n := by have := h.len; simpa using this
  obtain ⟨u1, u2⟩ := h.cap
  have hR := h.alloc (Nat.le_refl _) (.cells #[.int .i64 (k : Int), .int .i64 2, .int .u32 v] 68)
  have hbase : w.heap.size + 1 ≤ (w.alloc (.cells #[.int .i64 (k : Int), .int .i64 2, .int .u32 v] 68)).heap.size := by simp
  have HW := Lib.hid ((Below.refl w.heap.size w).alloc (Nat.le_refl _) (.cells #[.int .i64 (k : Int), .int .i64 2, .int .u32 v] 68))
  have c0 : (w.alloc (.cells #[.int .i64 (k : Int), .int .i64 2, .int .u32 v] 68)).cell? ⟨w.heap.size, 0, none⟩ = some (.int .i64 (k : Int)) := by go_simp
  have c1 : (w.alloc (.cells #[.int .i64 (k : Int), .int .i64 2, .int .u32 v] 68)).cell? ⟨w.heap.size, 1, none⟩ = some (.int .i64 2) := by go_simp
  have c2 : (w.alloc (.cells #[.int .i64 (k : Int), .int .i64 2, .int .u32 v] 68)).cell? ⟨w.heap.size, 2, none⟩ = some (.int .u32 v) := by go_simp
  go_enter Try.func43, Try.ntmps43
  go_wp2_with (at_builtin; refine wpList_append_row _ rfl (.const (.slice none 0 0)) (.tmp 6) 39 rfl (w.heap.size + 1) 5 i0 (.int .u8 0) 1 1 Try.underlying39 hi hz0 hz1 HZ2.out rfl (by omega) (.slice none 0 0) 0 [] rfl (World.ownsRow_nil _ _ _ _) _ _ n _ rfl hR (u8_one _) (by unfold maxLen; omega) (by omega) hbase ?_; intro v1 w1 hown1 hg1; simp only [Nat.zero_add, List.nil_append] at hown1; have k1 : Below (w.heap.size + 1) (w.alloc (.cells #[.int .i64 (k : Int), .int .i64 2, .int .u32 v] 68)) w1 := Below.grown (Below.refl _ _) hg1 hbase (fun k hk => by cases hk); have d0 := below_cell k1 (Nat.lt_succ_self _) c0; have d1 := below_cell k1 (Nat.lt_succ_self _) c1; have d2 := below_cell k1 (Nat.lt_succ_self _) c2)
  refine (bfits_any k 2 v n _ (by omega) (by omega)).mono ?_; rintro e w2 ⟨rfl, hb2⟩
  rw [HQ.out]
  obtain ⟨g, cap, rfl, hg, hgs⟩ := own_form hown1 (by omega)
  have hz1 : w.heap.size + 1 ≤ w1.heap.size := by have := k1.size; simp at this; omega
  have e0 := below_cell hb2 (by omega) d0
  have e1 := below_cell hb2 (by omega) d1
  have e2 := below_cell hb2 (by omega) d2
  have hown2 := own_below hown1 hb2
  obtain ⟨cur, hgcur, _, hcap1, hcap2, _⟩ := own_block hown2
  have hcap3 : cap ≤ 9223372036854775807 := by unfold maxLen at hcap2; omega
  have HB := Lib.hid ((HW.out.trans (k1.mono (Nat.le_succ _))).trans (hb2.mono (by have := k1.size; simp at this; omega)))
  have hz2 : w.heap.size < w2.heap.size := by have := hb2.size; omega
  clear hb2 d0 d1 d2 c0 c1 c2 k1 hR hown1
  go_wp2_with fail
  have f0 : ∀ x, Below (w.heap.size + 1) w2 x → _ := fun x hx => below_cell hx (Nat.lt_succ_self _) e0
  have f1 : ∀ x, Below (w.heap.size + 1) w2 x → _ := fun x hx => below_cell hx (Nat.lt_succ_self _) e1
  have f2 : ∀ x, Below (w.heap.size + 1) w2 x → _ := fun x hx => below_cell hx (Nat.lt_succ_self _) e2
  have i0' : Kept w2 w2.drew := (Kept.refl w2).drew
  have j0 : Below (w.heap.size + 1) w2 w2.drew := Below.drew (Below.refl _ _)
  clear e0 e1 e2
  refine wp_region_lin [(0, true), (1, true), (2, true), (3, true), (4, true), (5, true), (7, true), (8, true), (6, false), (9, true), (10, false)]
    (by kernel_rfl) (by kernel_rfl) rfl (by kernel_rfl) (Below (w.heap.size + 1) w2) ?_
  simp only [List.map_cons, List.map_nil, List.getElem?_toArray, List.getElem?_cons_succ, List.getElem?_cons_zero]
  iterate 3 (refine lin_take (v := ?_) (by assumption) (by rfl) ?_ ?_; rotate_left; (intro x hx; (try dsimp only at hx); go_simp; try (with_reducible rfl)); (simp only [Act.put, List.setIfInBounds_toArray, List.set_cons_zero, List.set_cons_succ]))
  refine lin_take (v := .slice (some ⟨g, k, none⟩) (n - k) (cap - k)) (by assumption) (by rfl) (fun x hx => ?_) ?_
  · go_simp
    rw [if_pos (show k ≤ n by omega), if_neg (show ¬ cap = k by omega)]
  simp only [Act.put, List.setIfInBounds_toArray, List.set_cons_zero, List.set_cons_succ]
  iterate 4 (refine lin_take (v := ?_) (by assumption) (by rfl) ?_ ?_; rotate_left; (intro x hx; (try dsimp only at hx); go_simp; try (with_reducible rfl)); (simp only [Act.put, List.setIfInBounds_toArray, List.set_cons_zero, List.set_cons_succ]))
  refine lin_call (by assumption) (by rfl) (fun K hK => ?_)
  go_simp
  refine (put_any v v0 (by omega) (Row.nil _ _ _) (by simp) (by omega)).mono ?_; rintro e x3 ⟨rfl, own3, hb3⟩
  have i3 := i0'.to hb3
  have j3 : Below (w.heap.size + 1) w2 x3 := Below.mono i3 hz2
  go_wp2_with fail
  refine hK.out _ _ j3 (fun _ => ?_)
  clear hK K
  try simp only [Act.put, List.setIfInBounds_toArray, List.set_cons_zero, List.set_cons_succ]
  have hg2 : g < w2.heap.size := by have := (Array.getElem?_eq_some_iff.1 hgcur).1; exact this
  have own4 := own_below hown2 i3
  have row4 := (Row.of_own own3)
  clear hb3 own3
  refine lin_take (v := .slice (some ⟨w2.heap.size, 0, none⟩) 2 4) (by assumption) (by rfl) (fun x hx => ?_) ?_
  · go_simp
  simp only [Act.put, List.setIfInBounds_toArray, List.set_cons_zero, List.set_cons_succ]
  refine lin_call (by assumption) (by rfl) (fun K hK => ?_)
  refine wp_copy_rows (.tmp 17) (.tmp 23) 39 39 rfl 5 Try.underlying39 (by kernel_rfl) (w.heap.size + 1) g n cap k (n - k) (cap - k) _ own4 (by go_simp) _ 2 4 _ _ (by go_simp) (row4.cut (k := 0) (m := 2) (by omega) (by omega)) (fun u hu => quad_one v u (List.mem_of_mem_take (by simpa using hu))) (by omega) ?_
  intro x5 own5 hb5
  refine hK.out _ _ (j3.trans (hb5.mono hg)) (fun _ => ?_)
  clear hK K
  try simp only [Act.put, List.setIfInBounds_toArray, List.set_cons_zero, List.set_cons_succ]
  refine lin_done ?_
  go_wp2_with fail
  go_ret
  rw [List.nil_append, List.drop_zero, splice_quad2 zs k n v hl (by omega)] at own5
  exact ⟨_, rfl, own_base own5 (Nat.le_succ _), HB.out.trans ((j3.trans (hb5.mono hg)).mono (Nat.le_succ _))⟩

set_option maxHeartbeats 1000000 in
theorem store_yes4 (k : Nat) (h : Row w w.heap.size 1 (.slice A n c) n (zs.map (Value.int .u8))) (hn : n ≤ 140737488355328) (hk : (k : Int) ≤ 4294967295) (hv : 0 ≤ v ∧ v ≤ 4294967295) (hck : checkZ 4 k n = 0) :
    Calls Try.prog 43 #[.slice A n c, .agg #[.int .i64 (k : Int), .int .i64 4, .int .u32 v]] w fun e w' => ∃ v', e = .returned v' ∧ w'.ownsRow w.heap.size 5 1 v' n ((put4 zs k v).map (Value.int .u8)) ∧ Below w.heap.size w w' := by
  obtain ⟨_, hr⟩ := checkZ_zero hck
  have HQ := Lib.hid (show storeOk 4 k n = true from decide_eq_true ⟨by omega, by omega, hk, hck⟩)
  have hkn : k + 4 ≤ n := by omega
  have hk0 : (0 : Int) ≤ k := by omega
  obtain ⟨v0, v9⟩ := hv
  clear hck
  obtain ⟨i0, hi, hz0, hz1, hz2⟩ := info_parts info_u8
  have HZ2 := Lib.hid hz2
  clear hz2
  have hl : zs.length = n := by have := h.len; simpa using this
  obtain ⟨u1, u2⟩ := h.cap
  have hR := h.alloc (Nat.le_refl _) (.cells #[.int .i64 (k : Int), .int .i64 4, .int .u32 v] 68)
  have hbase : w.heap.size + 1 ≤ (w.alloc (.cells #[.int .i64 (k : Int), .int .i64 4, .int .u32 v] 68)).heap.size := by simp
  have HW := Lib.hid ((Below.refl w.heap.size w).alloc (Nat.le_refl _) (.cells #[.int .i64 (k : Int), .int .i64 4, .int .u32 v] 68))
  have c0 : (w.alloc (.cells #[.int .i64 (k : Int), .int .i64 4, .int .u32 v] 68)).cell? ⟨w.heap.size, 0, none⟩ = some (.int .i64 (k : Int)) := by go_simp
  have c1 : (w.alloc (.cells #[.int .i64 (k : Int), .int .i64 4, .int .u32 v] 68)).cell? ⟨w.heap.size, 1, none⟩ = some (.int .i64 4) := by go_simp
  have c2 : (w.alloc (.cells #[.int .i64 (k : Int), .int .i64 4, .int .u32 v] 68)).cell? ⟨w.heap.size, 2, none⟩ = some (.int .u32 v) := by go_simp
  go_enter Try.func43, Try.ntmps43
  go_wp2_with (at_builtin; refine wpList_append_row _ rfl (.const (.slice none 0 0)) (.tmp 6) 39 rfl (w.heap.size + 1) 5 i0 (.int .u8 0) 1 1 Try.underlying39 hi hz0 hz1 HZ2.out rfl (by omega) (.slice none 0 0) 0 [] rfl (World.ownsRow_nil _ _ _ _) _ _ n _ rfl hR (u8_one _) (by unfold maxLen; omega) (by omega) hbase ?_; intro v1 w1 hown1 hg1; simp only [Nat.zero_add, List.nil_append] at hown1; have k1 : Below (w.heap.size + 1) (w.alloc (.cells #[.int .i64 (k : Int), .int .i64 4, .int .u32 v] 68)) w1 := Below.grown (Below.refl _ _) hg1 hbase (fun k hk => by cases hk); have d0 := below_cell k1 (Nat.lt_succ_self _) c0; have d1 := below_cell k1 (Nat.lt_succ_self _) c1; have d2 := below_cell k1 (Nat.lt_succ_self _) c2)
  refine (bfits_any k 4 v n _ (by omega) (by omega)).mono ?_; rintro e w2 ⟨rfl, hb2⟩
  rw [HQ.out]
  obtain ⟨g, cap, rfl, hg, hgs⟩ := own_form hown1 (by omega)
  have hz1 : w.heap.size + 1 ≤ w1.heap.size := by have := k1.size; simp at this; omega
  have e0 := below_cell hb2 (by omega) d0
  have e1 := below_cell hb2 (by omega) d1
  have e2 := below_cell hb2 (by omega) d2
  have hown2 := own_below hown1 hb2
  obtain ⟨cur, hgcur, _, hcap1, hcap2, _⟩ := own_block hown2
  have hcap3 : cap ≤ 9223372036854775807 := by unfold maxLen at hcap2; omega
  have HB := Lib.hid ((HW.out.trans (k1.mono (Nat.le_succ _))).trans (hb2.mono (by have := k1.size; simp at this; omega)))
  have hz2 : w.heap.size < w2.heap.size := by have := hb2.size; omega
  clear hb2 d0 d1 d2 c0 c1 c2 k1 hR hown1
  go_wp2_with fail
  have f0 : ∀ x, Below (w.heap.size + 1) w2 x → _ := fun x hx => below_cell hx (Nat.lt_succ_self _) e0
  have f1 : ∀ x, Below (w.heap.size + 1) w2 x → _ := fun x hx => below_cell hx (Nat.lt_succ_self _) e1
  have f2 : ∀ x, Below (w.heap.size + 1) w2 x → _ := fun x hx => below_cell hx (Nat.lt_succ_self _) e2
  have i0' : Kept w2 w2.drew := (Kept.refl w2).drew
  have j0 : Below (w.heap.size + 1) w2 w2.drew := Below.drew (Below.refl _ _)
  clear e0 e1 e2
  refine wp_region_lin [(0, true), (1, true), (2, true), (3, true), (4, true), (5, true), (7, true), (8, true), (6, false), (9, true), (10, false)]
    (by kernel_rfl) (by kernel_rfl) rfl (by kernel_rfl) (Below (w.heap.size + 1) w2) ?_
  simp only [List.map_cons, List.map_nil, List.getElem?_toArray, List.getElem?_cons_succ, List.getElem?_cons_zero]
  iterate 3 (refine lin_take (v := ?_) (by assumption) (by rfl) ?_ ?_; rotate_left; (intro x hx; (try dsimp only at hx); go_simp; try (with_reducible rfl)); (simp only [Act.put, List.setIfInBounds_toArray, List.set_cons_zero, List.set_cons_succ]))
  refine lin_take (v := .slice (some ⟨g, k, none⟩) (n - k) (cap - k)) (by assumption) (by rfl) (fun x hx => ?_) ?_
  · go_simp
    rw [if_pos (show k ≤ n by omega), if_neg (show ¬ cap = k by omega)]
  simp only [Act.put, List.setIfInBounds_toArray, List.set_cons_zero, List.set_cons_succ]
  iterate 4 (refine lin_take (v := ?_) (by assumption) (by rfl) ?_ ?_; rotate_left; (intro x hx; (try dsimp only at hx); go_simp; try (with_reducible rfl)); (simp only [Act.put, List.setIfInBounds_toArray, List.set_cons_zero, List.set_cons_succ]))
  refine lin_call (by assumption) (by rfl) (fun K hK => ?_)
  go_simp
  refine (put_any v v0 (by omega) (Row.nil _ _ _) (by simp) (by omega)).mono ?_; rintro e x3 ⟨rfl, own3, hb3⟩
  have i3 := i0'.to hb3
  have j3 : Below (w.heap.size + 1) w2 x3 := Below.mono i3 hz2
  go_wp2_with fail
  refine hK.out _ _ j3 (fun _ => ?_)
  clear hK K
  try simp only [Act.put, List.setIfInBounds_toArray, List.set_cons_zero, List.set_cons_succ]
  have hg2 : g < w2.heap.size := by have := (Array.getElem?_eq_some_iff.1 hgcur).1; exact this
  have own4 := own_below hown2 i3
  have row4 := (Row.of_own own3)
  clear hb3 own3
  refine lin_take (v := .slice (some ⟨w2.heap.size, 0, none⟩) 4 4) (by assumption) (by rfl) (fun x hx => ?_) ?_
  · go_simp
  simp only [Act.put, List.setIfInBounds_toArray, List.set_cons_zero, List.set_cons_succ]
  refine lin_call (by assumption) (by rfl) (fun K hK => ?_)
  refine wp_copy_rows (.tmp 17) (.tmp 23) 39 39 rfl 5 Try.underlying39 (by kernel_rfl) (w.heap.size + 1) g n cap k (n - k) (cap - k) _ own4 (by go_simp) _ 4 4 _ _ (by go_simp) (row4.cut (k := 0) (m := 4) (by omega) (by omega)) (fun u hu => quad_one v u (List.mem_of_mem_take (by simpa using hu))) (by omega) ?_
  intro x5 own5 hb5
  refine hK.out _ _ (j3.trans (hb5.mono hg)) (fun _ => ?_)
  clear hK K
  try simp only [Act.put, List.setIfInBounds_toArray, List.set_cons_zero, List.set_cons_succ]
  refine lin_done ?_
  go_wp2_with fail
  go_ret
  rw [List.nil_append, List.drop_zero, splice_quad4 zs k n v ⟨v0, v9⟩ hl (by omega)] at own5
  exact ⟨_, rfl, own_base own5 (Nat.le_succ _), HB.out.trans ((j3.trans (hb5.mono hg)).mono (Nat.le_succ _))⟩

theorem store_any (size addr : Int) (h : Row w w.heap.size 1 (.slice A n c) n (zs.map (Value.int .u8))) (hn : n ≤ 140737488355328) (hs : -9223372036854775808 ≤ size ∧ size ≤ 9223372036854775807) (hv : 0 ≤ v ∧ v ≤ 4294967295) :
    Calls Try.prog 43 #[.slice A n c, .agg #[.int .i64 addr, .int .i64 size, .int .u32 v]] w fun e w' => ∃ v', e = .returned v' ∧ w'.ownsRow w.heap.size 5 1 v' n ((storeZ zs size addr v).map (Value.int .u8)) ∧ Below w.heap.size w w' := by
  have hl : zs.length = n := by have := h.len; simpa using this
  cases hq : storeOk size addr n
  · rw [storeZ_no (by rw [hl]; exact hq)]
    exact store_no A c n zs v w size addr h hn hs hq
  · obtain ⟨hsz, h0, h1, hck⟩ := storeOk_yes hq
    obtain ⟨k, rfl⟩ := Int.eq_ofNat_of_zero_le h0
    unfold storeZ
    rw [if_pos (by rw [hl]; exact hq)]
    rcases hsz with rfl | rfl | rfl
    · exact store_yes1 A c n zs v w k h hn h1 hv hck
    · exact store_yes2 A c n zs v w k h hn h1 hv hck
    · exact store_yes4 A c n zs v w k h hn h1 hv hck
end
end Go.Proofs.Ythhoigkmmlkfcaa.Words

/- A law of no one program: in a region that draws its order a variable of many cells is read. -/
namespace Go.Proofs.Ythhoigkmmlkfcaa.Words
set_option maxRecDepth 100000
open Go.RowKit
set_option linter.unusedVariables false

section
variable {P : Program} {ops : Array Oper} {rest : List (Option Oper × Bool)} {op : Oper} {a : Act} {Q : Exit → Act → World → Prop} {S : World → Prop} {w : World}
theorem lin_takeB (hS : S w) (hw : Region.wanted op (yielded ops a.tmps) = true) (ty : TypeId) (x : Operand) (ho : op.op = .load ty x)
    (b k : Nat) (hx : a.eval x = .pointer (some ⟨b, k, none⟩)) (l cs : List Value) (hb : ∀ y, S y → Box y b l) (hc : ∀ j v, cs[j]? = some v → l[k + j]? = some v) (d : TypeDesc)
    (hu : P.underlying ty = some d) (hd : d.isRow = true) (n : Nat) (hi : (P.info? ty).map (·.size) = some n) (hn : cs.length = n)
    (h : wpLin P ops Q rest S (a.put op.dst (.agg cs.toArray)) w) : wpLin P ops Q ((some op, true) :: rest) S a w :=
  ⟨S, fun _ h => h, hS, _, yieldsIf_load_mid hw ty x ho b k hx cs d (fun y hy => (hb y hy).range hc) hu hd (by rw [hn]; exact hi), h⟩
end
theorem wholeB {l : List Value} : ∀ j v, l[j]? = some v → l[0 + j]? = some v := fun j v h => by rw [Nat.zero_add]; exact h
theorem Box.keptB {W x : World} {b : Nat} {l : List Value} (h : Box W b l) (hk : Kept W x) : Box x b l := h.below hk h.lt
end Go.Proofs.Ythhoigkmmlkfcaa.Words

/- Contracts of the document's own Bank, ith, Lat, Pick, within of chapters 18 and 19. -/
namespace Go.Proofs.Ythhoigkmmlkfcaa.Words
set_option maxRecDepth 100000
open Go.RowKit
set_option linter.unusedVariables false
set_option linter.unusedSimpArgs false

theorem and_30 (n : Int) : bits .and .i64 n 1073741823 = n % 1073741824 := by
  have h1 : (BitVec.ofInt 64 1073741823).toNat = 2 ^ 30 - 1 := by decide
  have h2 : (BitVec.ofInt 64 n &&& BitVec.ofInt 64 1073741823).toNat = (n % ((2 ^ 64 : Nat) : Int)).toNat % 2 ^ 30 := by
    rw [BitVec.toNat_and, BitVec.toNat_ofInt, h1, Nat.and_two_pow_sub_one_eq_mod]
  show IntKind.i64.wrap ((BitVec.ofInt 64 n &&& BitVec.ofInt 64 1073741823).toNat : Nat) = n % 1073741824
  rw [h2, IntKind.wrap_i64]
  omega
set_option maxHeartbeats 400000 in
theorem refBank_any (addr n : Int) (w : World) (ha : -9223372036854775808 ≤ addr ∧ addr ≤ 9223372036854775807) (hn : -9223372036854775808 ≤ n ∧ n ≤ 9223372036854775807) :
    Calls Try.prog 11 #[.int .i64 addr, .int .i64 n] w fun e w' => e = .returned (.int .i64 (bankZ addr n)) ∧ w = w' := by
  by_cases h1 : addr < 0
  · have HE := Lib.hid (show bankZ addr n = 0 by unfold bankZ; rw [if_pos (.inl h1)])
    go_enter Try.func11, Try.ntmps11
    go_wp2_with fail
    go_ret
    exact ⟨ret_int HE.out.symm, rfl⟩
  · by_cases h2 : n < 1
    · have HE := Lib.hid (show bankZ addr n = 0 by unfold bankZ; rw [if_pos (.inr h2)])
      go_enter Try.func11, Try.ntmps11
      go_wp2_with fail
      go_ret
      exact ⟨ret_int HE.out.symm, rfl⟩
    · have HE := Lib.hid (show bankZ addr n = addr / 4 % n by unfold bankZ; rw [if_neg (by omega)])
      have k0 : 0 ≤ addr := by omega
      have k1 : 1 ≤ n := by omega
      have k2 : 0 ≤ addr / 4 := by omega
      go_enter Try.func11, Try.ntmps11
      go_wp2_with fail
      go_ret
      exact ⟨ret_int (by rw [HE.out]), rfl⟩
set_option maxHeartbeats 400000 in
theorem refIth_any (A : Option Addr) (c n : Nat) (l : List Int) (i : Int) (w : World) (hl : l.length = n) (h : Row w w.heap.size 1 (.slice A n c) n (l.map (Value.int .i64))) (hi : -9223372036854775808 ≤ i ∧ i ≤ 9223372036854775807) :
    Calls Try.prog 24 #[.slice A n c, .int .i64 i] w fun e w' => e = .returned (.int .i64 (ithZ l i)) ∧ w = w' := by
  have hcap := h.cap
  by_cases h1 : n = 0
  · have HE := Lib.hid (show ithZ l i = 0 by unfold ithZ; rw [if_pos (.inl (by omega))])
    subst h1
    clear h hl
    go_enter Try.func24, Try.ntmps24
    go_wp2_with fail
    go_ret
    exact ⟨ret_int HE.out.symm, rfl⟩
  · have hn0 : ((n : Int) == 0) = false := by rw [beq_eq_false_iff_ne]; omega
    by_cases h2 : i < 0
    · have HE := Lib.hid (show ithZ l i = 0 by unfold ithZ; rw [if_pos (.inr h2)])
      clear h hl
      go_enter Try.func24, Try.ntmps24
      go_wp2_with fail
      go_ret
      exact ⟨ret_int HE.out.symm, rfl⟩
    · obtain ⟨k, hk⟩ : ∃ k : Nat, i % n = k := ⟨(i % n).toNat, by have := Int.emod_nonneg i (show (n : Int) ≠ 0 by omega); omega⟩
      have hkn : k < n := by have := Int.emod_lt_of_pos i (show (0 : Int) < n by omega); omega
      have HE := Lib.hid (show ithZ l i = l.getD k 0 % 1073741824 by unfold ithZ; rw [if_neg (by omega), hl, hk]; rfl)
      obtain ⟨g, o, rfl, hg, _⟩ := h.at_ (by omega)
      have d0 := h.cells _ rfl k (.int .i64 (l.getD k 0)) (by rw [List.getElem?_map, List.getD_eq_getElem?_getD, List.getElem?_eq_getElem (by omega)]; rfl)
      rw [add_spot] at d0
      obtain ⟨x, hx⟩ : ∃ x, x = l.getD k 0 := ⟨_, rfl⟩
      rw [← hx] at d0 HE
      clear hx
      have a30 := and_30 x
      have k0 : 0 ≤ i := by omega
      have k1 : (0 : Int) < n := by omega
      have k2 : (0 : Int) ≤ k := by omega
      have k3 : (k : Int) < n := by omega
      clear h hl
      go_enter Try.func24, Try.ntmps24
      go_wp2_with fail
      go_ret
      exact ⟨ret_int HE.out.symm, rfl⟩
set_option maxHeartbeats 400000 in
theorem refWithin_any (n most : Int) (w : World) :
    Calls Try.prog 31 #[.int .i64 n, .int .i64 most] w fun e w' => e = .returned (.bool (withinB n most)) ∧ w = w' := by
  by_cases h1 : 1 ≤ n
  · by_cases h2 : n ≤ most
    · have HE := Lib.hid (show withinB n most = true from decide_eq_true ⟨h1, h2⟩)
      go_enter Try.func31, Try.ntmps31
      go_wp2_with fail
      go_ret
      exact ⟨ret_bool (by rw [HE.out]), rfl⟩
    · have HE := Lib.hid (show withinB n most = false from decide_eq_false (by omega))
      go_enter Try.func31, Try.ntmps31
      go_wp2_with fail
      go_ret
      exact ⟨ret_bool (by rw [HE.out]), rfl⟩
  · have HE := Lib.hid (show withinB n most = false from decide_eq_false (by omega))
    go_enter Try.func31, Try.ntmps31
    go_wp2_with fail
    go_ret
    exact ⟨ret_bool (by rw [HE.out]), rfl⟩
set_option maxHeartbeats 400000 in
theorem refLat_any (A B : Option Addr) (c d n m : Nat) (l p : List Int) (i most : Int) (w : World) (hl : l.length = n) (h : Row w w.heap.size 1 (.slice A n c) n (l.map (Value.int .i64))) (hi : -9223372036854775808 ≤ i ∧ i ≤ 9223372036854775807) (hm : most ≤ 9223372036854775807) :
    Calls Try.prog 13 #[.agg #[.slice A n c, .slice B m d], .int .i64 i, .int .i64 most] w fun e w' => e = .returned (.int .i64 (latsZ l i most)) ∧ Below w.heap.size w w' := by
  by_cases h1 : most < 1
  · have HE := Lib.hid (show latsZ l i most = 1 by unfold latsZ; rw [if_pos h1])
    go_enter Try.func13, Try.ntmps13
    go_wp2_with fail
    go_ret
    exact ⟨ret_int HE.out.symm, (Below.refl _ _).alloc (Nat.le_refl _) _⟩
  · have HE := Lib.hid (show latsZ l i most = 1 + ithZ l i % most by unfold latsZ; rw [if_neg h1])
    have HR := Lib.hid (fun (o : Obj) => (h.alloc (Nat.le_refl _) o).more (show w.heap.size ≤ (w.alloc o).heap.size by simp))
    obtain ⟨q0, q1⟩ := ithZ_range l i
    have k1 : 1 ≤ most := by omega
    have k2 := Int.emod_nonneg (ithZ l i) (show most ≠ 0 by omega)
    have k3 := Int.emod_lt_of_pos (ithZ l i) (show 0 < most by omega)
    have HL := Lib.hid hl
    clear h hl
    go_enter Try.func13, Try.ntmps13
    go_wp2_with fail
    refine (refIth_any A c n l i _ HL.out (HR.out _) hi).mono ?_
    rintro e w1 ⟨rfl, rfl⟩
    go_wp2_with fail
    go_ret
    exact ⟨ret_int HE.out.symm, (Below.refl _ _).alloc (Nat.le_refl _) _⟩
set_option maxHeartbeats 400000 in
theorem refPick_any (A B : Option Addr) (c d n m : Nat) (l p : List Int) (i most : Int) (w : World) (hl : p.length = m) (h : Row w w.heap.size 1 (.slice B m d) m (p.map (Value.int .i64))) (hi : -9223372036854775808 ≤ i ∧ i ≤ 9223372036854775807) (hm : most ≤ 9223372036854775807) :
    Calls Try.prog 15 #[.agg #[.slice A n c, .slice B m d], .int .i64 i, .int .i64 most] w fun e w' => e = .returned (.int .i64 (pickZ p i most)) ∧ Below w.heap.size w w' := by
  by_cases h1 : most < 1
  · have HE := Lib.hid (show pickZ p i most = 0 by unfold pickZ; rw [if_pos h1])
    go_enter Try.func15, Try.ntmps15
    go_wp2_with fail
    go_ret
    exact ⟨ret_int HE.out.symm, (Below.refl _ _).alloc (Nat.le_refl _) _⟩
  · have HE := Lib.hid (show pickZ p i most = ithZ p i % most by unfold pickZ; rw [if_neg h1])
    have HR := Lib.hid (fun (o : Obj) => (h.alloc (Nat.le_refl _) o).more (show w.heap.size ≤ (w.alloc o).heap.size by simp))
    obtain ⟨q0, q1⟩ := ithZ_range p i
    have k1 : 1 ≤ most := by omega
    have HL := Lib.hid hl
    clear h hl
    go_enter Try.func15, Try.ntmps15
    go_wp2_with fail
    refine (refIth_any B d m p i _ HL.out (HR.out _) hi).mono ?_
    rintro e w1 ⟨rfl, rfl⟩
    go_wp2_with fail
    go_ret
    exact ⟨ret_int HE.out.symm, (Below.refl _ _).alloc (Nat.le_refl _) _⟩
end Go.Proofs.Ythhoigkmmlkfcaa.Words

/- Contract of the document's own Store: a memory of the call's own. -/
namespace Go.Proofs.Ythhoigkmmlkfcaa.Words
set_option maxRecDepth 100000
open Go.RowKit
set_option linter.unusedVariables false

section
variable (A : Option Addr) (c n : Nat) (zs : List Int) (v : Int) (w : World)

set_option maxHeartbeats 2000000 in
theorem refStore_size (size addr : Int) (h : Row w w.heap.size 1 (.slice A n c) n (zs.map (Value.int .u8))) (hn : n ≤ 140737488355328) (hs : -9223372036854775808 ≤ size ∧ size ≤ 9223372036854775807) (hq : size ≠ 1 ∧ size ≠ 2 ∧ size ≠ 4) :
    Calls Try.prog 37 #[.slice A n c, .agg #[.int .i64 addr, .int .i64 size, .int .u32 v]] w fun e w' => ∃ v', e = .returned v' ∧ w'.ownsRow w.heap.size 5 1 v' n ((zs).map (Value.int .u8)) ∧ Below w.heap.size w w' := by
  obtain ⟨i0, hi, hz0, hz1, hz2⟩ := info_parts info_u8
  have HZ2 := Lib.hid hz2
  clear hz2
  have hl : zs.length = n := by have := h.len; simpa using this
  obtain ⟨u1, u2⟩ := h.cap
  have hR := h.alloc (Nat.le_refl _) (.cells #[.int .i64 addr, .int .i64 size, .int .u32 v] 68)
  have hbase : w.heap.size + 1 ≤ (w.alloc (.cells #[.int .i64 addr, .int .i64 size, .int .u32 v] 68)).heap.size := by simp
  have HW := Lib.hid ((Below.refl w.heap.size w).alloc (Nat.le_refl _) (.cells #[.int .i64 addr, .int .i64 size, .int .u32 v] 68))
  have c0 : (w.alloc (.cells #[.int .i64 addr, .int .i64 size, .int .u32 v] 68)).cell? ⟨w.heap.size, 0, none⟩ = some (.int .i64 addr) := by go_simp
  have c1 : (w.alloc (.cells #[.int .i64 addr, .int .i64 size, .int .u32 v] 68)).cell? ⟨w.heap.size, 1, none⟩ = some (.int .i64 size) := by go_simp
  have c2 : (w.alloc (.cells #[.int .i64 addr, .int .i64 size, .int .u32 v] 68)).cell? ⟨w.heap.size, 2, none⟩ = some (.int .u32 v) := by go_simp
  obtain ⟨q1, q2, q3⟩ := hq
  have e1 : (size != 1) = true := by simp; exact q1
  have e2 : (size != 2) = true := by simp; exact q2
  have e3 : (size != 4) = true := by simp; exact q3
  go_enter Try.func37, Try.ntmps37
  go_wp2_with (at_builtin; refine wpList_append_row _ rfl (.const (.slice none 0 0)) (.tmp 7) 39 rfl (w.heap.size + 1) 5 i0 (.int .u8 0) 1 1 Try.underlying39 hi hz0 hz1 HZ2.out rfl (by omega) (.slice none 0 0) 0 [] rfl (World.ownsRow_nil _ _ _ _) _ _ n _ rfl hR (u8_one _) (by unfold maxLen; omega) (by omega) hbase ?_; intro v1 w1 hown1 hg1; simp only [Nat.zero_add, List.nil_append] at hown1; have k1 : Below (w.heap.size + 1) (w.alloc (.cells #[.int .i64 addr, .int .i64 size, .int .u32 v] 68)) w1 := Below.grown (Below.refl _ _) hg1 hbase (fun k hk => by cases hk); have d0 := below_cell k1 (Nat.lt_succ_self _) c0; have d1 := below_cell k1 (Nat.lt_succ_self _) c1; have d2 := below_cell k1 (Nat.lt_succ_self _) c2)
  go_ret
  exact ⟨_, rfl, own_base hown1 (Nat.le_succ _), HW.out.trans (k1.mono (Nat.le_succ _))⟩

set_option maxHeartbeats 2000000 in
theorem refStore_low1 (addr : Int) (h : Row w w.heap.size 1 (.slice A n c) n (zs.map (Value.int .u8))) (hn : n ≤ 140737488355328) (ha : addr < 0) :
    Calls Try.prog 37 #[.slice A n c, .agg #[.int .i64 addr, .int .i64 1, .int .u32 v]] w fun e w' => ∃ v', e = .returned v' ∧ w'.ownsRow w.heap.size 5 1 v' n ((zs).map (Value.int .u8)) ∧ Below w.heap.size w w' := by
  obtain ⟨i0, hi, hz0, hz1, hz2⟩ := info_parts info_u8
  have HZ2 := Lib.hid hz2
  clear hz2
  have hl : zs.length = n := by have := h.len; simpa using this
  obtain ⟨u1, u2⟩ := h.cap
  have hR := h.alloc (Nat.le_refl _) (.cells #[.int .i64 addr, .int .i64 1, .int .u32 v] 68)
  have hbase : w.heap.size + 1 ≤ (w.alloc (.cells #[.int .i64 addr, .int .i64 1, .int .u32 v] 68)).heap.size := by simp
  have HW := Lib.hid ((Below.refl w.heap.size w).alloc (Nat.le_refl _) (.cells #[.int .i64 addr, .int .i64 1, .int .u32 v] 68))
  have c0 : (w.alloc (.cells #[.int .i64 addr, .int .i64 1, .int .u32 v] 68)).cell? ⟨w.heap.size, 0, none⟩ = some (.int .i64 addr) := by go_simp
  have c1 : (w.alloc (.cells #[.int .i64 addr, .int .i64 1, .int .u32 v] 68)).cell? ⟨w.heap.size, 1, none⟩ = some (.int .i64 1) := by go_simp
  have c2 : (w.alloc (.cells #[.int .i64 addr, .int .i64 1, .int .u32 v] 68)).cell? ⟨w.heap.size, 2, none⟩ = some (.int .u32 v) := by go_simp
  go_enter Try.func37, Try.ntmps37
  go_wp2_with (at_builtin; refine wpList_append_row _ rfl (.const (.slice none 0 0)) (.tmp 7) 39 rfl (w.heap.size + 1) 5 i0 (.int .u8 0) 1 1 Try.underlying39 hi hz0 hz1 HZ2.out rfl (by omega) (.slice none 0 0) 0 [] rfl (World.ownsRow_nil _ _ _ _) _ _ n _ rfl hR (u8_one _) (by unfold maxLen; omega) (by omega) hbase ?_; intro v1 w1 hown1 hg1; simp only [Nat.zero_add, List.nil_append] at hown1; have k1 : Below (w.heap.size + 1) (w.alloc (.cells #[.int .i64 addr, .int .i64 1, .int .u32 v] 68)) w1 := Below.grown (Below.refl _ _) hg1 hbase (fun k hk => by cases hk); have d0 := below_cell k1 (Nat.lt_succ_self _) c0; have d1 := below_cell k1 (Nat.lt_succ_self _) c1; have d2 := below_cell k1 (Nat.lt_succ_self _) c2)
  go_ret
  exact ⟨_, rfl, own_base hown1 (Nat.le_succ _), HW.out.trans (k1.mono (Nat.le_succ _))⟩

set_option maxHeartbeats 2000000 in
theorem refStore_high1 (addr : Int) (h : Row w w.heap.size 1 (.slice A n c) n (zs.map (Value.int .u8))) (hn : n ≤ 140737488355328) (ha : 4294967295 < addr) :
    Calls Try.prog 37 #[.slice A n c, .agg #[.int .i64 addr, .int .i64 1, .int .u32 v]] w fun e w' => ∃ v', e = .returned v' ∧ w'.ownsRow w.heap.size 5 1 v' n ((zs).map (Value.int .u8)) ∧ Below w.heap.size w w' := by
  obtain ⟨i0, hi, hz0, hz1, hz2⟩ := info_parts info_u8
  have HZ2 := Lib.hid hz2
  clear hz2
  have hl : zs.length = n := by have := h.len; simpa using this
  obtain ⟨u1, u2⟩ := h.cap
  have hR := h.alloc (Nat.le_refl _) (.cells #[.int .i64 addr, .int .i64 1, .int .u32 v] 68)
  have hbase : w.heap.size + 1 ≤ (w.alloc (.cells #[.int .i64 addr, .int .i64 1, .int .u32 v] 68)).heap.size := by simp
  have HW := Lib.hid ((Below.refl w.heap.size w).alloc (Nat.le_refl _) (.cells #[.int .i64 addr, .int .i64 1, .int .u32 v] 68))
  have c0 : (w.alloc (.cells #[.int .i64 addr, .int .i64 1, .int .u32 v] 68)).cell? ⟨w.heap.size, 0, none⟩ = some (.int .i64 addr) := by go_simp
  have c1 : (w.alloc (.cells #[.int .i64 addr, .int .i64 1, .int .u32 v] 68)).cell? ⟨w.heap.size, 1, none⟩ = some (.int .i64 1) := by go_simp
  have c2 : (w.alloc (.cells #[.int .i64 addr, .int .i64 1, .int .u32 v] 68)).cell? ⟨w.heap.size, 2, none⟩ = some (.int .u32 v) := by go_simp
  go_enter Try.func37, Try.ntmps37
  go_wp2_with (at_builtin; refine wpList_append_row _ rfl (.const (.slice none 0 0)) (.tmp 7) 39 rfl (w.heap.size + 1) 5 i0 (.int .u8 0) 1 1 Try.underlying39 hi hz0 hz1 HZ2.out rfl (by omega) (.slice none 0 0) 0 [] rfl (World.ownsRow_nil _ _ _ _) _ _ n _ rfl hR (u8_one _) (by unfold maxLen; omega) (by omega) hbase ?_; intro v1 w1 hown1 hg1; simp only [Nat.zero_add, List.nil_append] at hown1; have k1 : Below (w.heap.size + 1) (w.alloc (.cells #[.int .i64 addr, .int .i64 1, .int .u32 v] 68)) w1 := Below.grown (Below.refl _ _) hg1 hbase (fun k hk => by cases hk); have d0 := below_cell k1 (Nat.lt_succ_self _) c0; have d1 := below_cell k1 (Nat.lt_succ_self _) c1; have d2 := below_cell k1 (Nat.lt_succ_self _) c2)
  go_ret
  exact ⟨_, rfl, own_base hown1 (Nat.le_succ _), HW.out.trans (k1.mono (Nat.le_succ _))⟩

set_option maxHeartbeats 2000000 in
theorem refStore_bad1 (addr : Int) (h : Row w w.heap.size 1 (.slice A n c) n (zs.map (Value.int .u8))) (hn : n ≤ 140737488355328) (h0 : 0 ≤ addr) (h1 : addr ≤ 4294967295) (hck : checkZ 1 addr n ≠ 0) :
    Calls Try.prog 37 #[.slice A n c, .agg #[.int .i64 addr, .int .i64 1, .int .u32 v]] w fun e w' => ∃ v', e = .returned v' ∧ w'.ownsRow w.heap.size 5 1 v' n ((zs).map (Value.int .u8)) ∧ Below w.heap.size w w' := by
  obtain ⟨i0, hi, hz0, hz1, hz2⟩ := info_parts info_u8
  have HZ2 := Lib.hid hz2
  clear hz2
  have hl : zs.length = n := by have := h.len; simpa using this
  obtain ⟨u1, u2⟩ := h.cap
  have hR := h.alloc (Nat.le_refl _) (.cells #[.int .i64 addr, .int .i64 1, .int .u32 v] 68)
  have hbase : w.heap.size + 1 ≤ (w.alloc (.cells #[.int .i64 addr, .int .i64 1, .int .u32 v] 68)).heap.size := by simp
  have HW := Lib.hid ((Below.refl w.heap.size w).alloc (Nat.le_refl _) (.cells #[.int .i64 addr, .int .i64 1, .int .u32 v] 68))
  have c0 : (w.alloc (.cells #[.int .i64 addr, .int .i64 1, .int .u32 v] 68)).cell? ⟨w.heap.size, 0, none⟩ = some (.int .i64 addr) := by go_simp
  have c1 : (w.alloc (.cells #[.int .i64 addr, .int .i64 1, .int .u32 v] 68)).cell? ⟨w.heap.size, 1, none⟩ = some (.int .i64 1) := by go_simp
  have c2 : (w.alloc (.cells #[.int .i64 addr, .int .i64 1, .int .u32 v] 68)).cell? ⟨w.heap.size, 2, none⟩ = some (.int .u32 v) := by go_simp
  have e1 : (checkZ 1 addr n != 0) = true := by simp; exact hck
  have e2 : addr % 4294967296 = addr := by omega
  clear hck
  go_enter Try.func37, Try.ntmps37
  go_wp2_with (at_builtin; refine wpList_append_row _ rfl (.const (.slice none 0 0)) (.tmp 7) 39 rfl (w.heap.size + 1) 5 i0 (.int .u8 0) 1 1 Try.underlying39 hi hz0 hz1 HZ2.out rfl (by omega) (.slice none 0 0) 0 [] rfl (World.ownsRow_nil _ _ _ _) _ _ n _ rfl hR (u8_one _) (by unfold maxLen; omega) (by omega) hbase ?_; intro v1 w1 hown1 hg1; simp only [Nat.zero_add, List.nil_append] at hown1; have k1 : Below (w.heap.size + 1) (w.alloc (.cells #[.int .i64 addr, .int .i64 1, .int .u32 v] 68)) w1 := Below.grown (Below.refl _ _) hg1 hbase (fun k hk => by cases hk); have d0 := below_cell k1 (Nat.lt_succ_self _) c0; have d1 := below_cell k1 (Nat.lt_succ_self _) c1; have d2 := below_cell k1 (Nat.lt_succ_self _) c2)
  refine (refCheck_any 1 addr n _ h0 h1 (by omega) (by omega)).mono ?_; rintro e w2 ⟨rfl, rfl⟩
  go_wp2_with fail
  go_ret
  exact ⟨_, rfl, own_base hown1 (Nat.le_succ _), HW.out.trans (k1.mono (Nat.le_succ _))⟩

set_option maxHeartbeats 4000000 in
theorem refStore_yes1 (k : Nat) (h : Row w w.heap.size 1 (.slice A n c) n (zs.map (Value.int .u8))) (hn : n ≤ 140737488355328) (hk : (k : Int) ≤ 4294967295) (hv : 0 ≤ v ∧ v ≤ 4294967295) (hck : checkZ 1 k n = 0) :
    Calls Try.prog 37 #[.slice A n c, .agg #[.int .i64 (k : Int), .int .i64 1, .int .u32 v]] w fun e w' => ∃ v', e = .returned v' ∧ w'.ownsRow w.heap.size 5 1 v' n ((put1 zs k v).map (Value.int .u8)) ∧ Below w.heap.size w w' := by
  obtain ⟨_, hr⟩ := checkZ_zero hck
  have HCK := Lib.hid hck
  have hkn : k + 0 < n := by omega
  have hk0 : (0 : Int) ≤ k := by omega
  obtain ⟨v0, v9⟩ := hv
  clear hck
  obtain ⟨i0, hi, hz0, hz1, hz2⟩ := info_parts info_u8
  have HZ2 := Lib.hid hz2
  clear hz2
  have hl : zs.length = n := by have := h.len; simpa using this
  obtain ⟨u1, u2⟩ := h.cap
  have hR := h.alloc (Nat.le_refl _) (.cells #[.int .i64 (k : Int), .int .i64 1, .int .u32 v] 68)
  have hbase : w.heap.size + 1 ≤ (w.alloc (.cells #[.int .i64 (k : Int), .int .i64 1, .int .u32 v] 68)).heap.size := by simp
  have HW := Lib.hid ((Below.refl w.heap.size w).alloc (Nat.le_refl _) (.cells #[.int .i64 (k : Int), .int .i64 1, .int .u32 v] 68))
  have c0 : (w.alloc (.cells #[.int .i64 (k : Int), .int .i64 1, .int .u32 v] 68)).cell? ⟨w.heap.size, 0, none⟩ = some (.int .i64 (k : Int)) := by go_simp
  have c1 : (w.alloc (.cells #[.int .i64 (k : Int), .int .i64 1, .int .u32 v] 68)).cell? ⟨w.heap.size, 1, none⟩ = some (.int .i64 1) := by go_simp
  have c2 : (w.alloc (.cells #[.int .i64 (k : Int), .int .i64 1, .int .u32 v] 68)).cell? ⟨w.heap.size, 2, none⟩ = some (.int .u32 v) := by go_simp
  have e2 : (k : Int) % 4294967296 = k := by omega
  go_enter Try.func37, Try.ntmps37
  go_wp2_with (at_builtin; refine wpList_append_row _ rfl (.const (.slice none 0 0)) (.tmp 7) 39 rfl (w.heap.size + 1) 5 i0 (.int .u8 0) 1 1 Try.underlying39 hi hz0 hz1 HZ2.out rfl (by omega) (.slice none 0 0) 0 [] rfl (World.ownsRow_nil _ _ _ _) _ _ n _ rfl hR (u8_one _) (by unfold maxLen; omega) (by omega) hbase ?_; intro v1 w1 hown1 hg1; simp only [Nat.zero_add, List.nil_append] at hown1; have k1 : Below (w.heap.size + 1) (w.alloc (.cells #[.int .i64 (k : Int), .int .i64 1, .int .u32 v] 68)) w1 := Below.grown (Below.refl _ _) hg1 hbase (fun k hk => by cases hk); have d0 := below_cell k1 (Nat.lt_succ_self _) c0; have d1 := below_cell k1 (Nat.lt_succ_self _) c1; have d2 := below_cell k1 (Nat.lt_succ_self _) c2; obtain ⟨g, cap, rfl, hg0, hgs⟩ := own_form hown1 (by omega); have q0 := own_u8 hown1 k (by omega); have f0 := hown1.frozenAt k)
  refine (refCheck_any 1 k n _ (by omega) hk (by omega) (by omega)).mono ?_; rintro e w2 ⟨rfl, rfl⟩
  rw [HCK.out]
  go_wp2_with fail
  refine wp_loop_rounds 2 ?_
  iterate 2 (rw [rounds_succ]; go_wp2_with fail)
  go_ret
  have o0 := (hown1.stored k (.int .u8 (v % 256))).1
  rw [← List.map_set] at o0
  refine ⟨_, rfl, own_base o0 (Nat.le_succ _), ?_⟩
  exact HW.out.trans (Below.setCell (k1.mono (Nat.le_succ _)) (by simp; omega) _)

set_option maxHeartbeats 2000000 in
theorem refStore_low2 (addr : Int) (h : Row w w.heap.size 1 (.slice A n c) n (zs.map (Value.int .u8))) (hn : n ≤ 140737488355328) (ha : addr < 0) :
    Calls Try.prog 37 #[.slice A n c, .agg #[.int .i64 addr, .int .i64 2, .int .u32 v]] w fun e w' => ∃ v', e = .returned v' ∧ w'.ownsRow w.heap.size 5 1 v' n ((zs).map (Value.int .u8)) ∧ Below w.heap.size w w' := by
  obtain ⟨i0, hi, hz0, hz1, hz2⟩ := info_parts info_u8
  have HZ2 := Lib.hid hz2
  clear hz2
  have hl : zs.length = n := by have := h.len; simpa using this
  obtain ⟨u1, u2⟩ := h.cap
  have hR := h.alloc (Nat.le_refl _) (.cells #[.int .i64 addr, .int .i64 2, .int .u32 v] 68)
  have hbase : w.heap.size + 1 ≤ (w.alloc (.cells #[.int .i64 addr, .int .i64 2, .int .u32 v] 68)).heap.size := by simp
  have HW := Lib.hid ((Below.refl w.heap.size w).alloc (Nat.le_refl _) (.cells #[.int .i64 addr, .int .i64 2, .int .u32 v] 68))
  have c0 : (w.alloc (.cells #[.int .i64 addr, .int .i64 2, .int .u32 v] 68)).cell? ⟨w.heap.size, 0, none⟩ = some (.int .i64 addr) := by go_simp
  have c1 : (w.alloc (.cells #[.int .i64 addr, .int .i64 2, .int .u32 v] 68)).cell? ⟨w.heap.size, 1, none⟩ = some (.int .i64 2) := by go_simp
  have c2 : (w.alloc (.cells #[.int .i64 addr, .int .i64 2, .int .u32 v] 68)).cell? ⟨w.heap.size, 2, none⟩ = some (.int .u32 v) := by go_simp
  go_enter Try.func37, Try.ntmps37
  go_wp2_with (at_builtin; refine wpList_append_row _ rfl (.const (.slice none 0 0)) (.tmp 7) 39 rfl (w.heap.size + 1) 5 i0 (.int .u8 0) 1 1 Try.underlying39 hi hz0 hz1 HZ2.out rfl (by omega) (.slice none 0 0) 0 [] rfl (World.ownsRow_nil _ _ _ _) _ _ n _ rfl hR (u8_one _) (by unfold maxLen; omega) (by omega) hbase ?_; intro v1 w1 hown1 hg1; simp only [Nat.zero_add, List.nil_append] at hown1; have k1 : Below (w.heap.size + 1) (w.alloc (.cells #[.int .i64 addr, .int .i64 2, .int .u32 v] 68)) w1 := Below.grown (Below.refl _ _) hg1 hbase (fun k hk => by cases hk); have d0 := below_cell k1 (Nat.lt_succ_self _) c0; have d1 := below_cell k1 (Nat.lt_succ_self _) c1; have d2 := below_cell k1 (Nat.lt_succ_self _) c2)
  go_ret
  exact ⟨_, rfl, own_base hown1 (Nat.le_succ _), HW.out.trans (k1.mono (Nat.le_succ _))⟩

set_option maxHeartbeats 2000000 in
theorem refStore_high2 (addr : Int) (h : Row w w.heap.size 1 (.slice A n c) n (zs.map (Value.int .u8))) (hn : n ≤ 140737488355328) (ha : 4294967295 < addr) :
    Calls Try.prog 37 #[.slice A n c, .agg #[.int .i64 addr, .int .i64 2, .int .u32 v]] w fun e w' => ∃ v', e = .returned v' ∧ w'.ownsRow w.heap.size 5 1 v' n ((zs).map (Value.int .u8)) ∧ Below w.heap.size w w' := by
  obtain ⟨i0, hi, hz0, hz1, hz2⟩ := info_parts info_u8
  have HZ2 := Lib.hid hz2
  clear hz2
  have hl : zs.length = n := by have := h.len; simpa using this
  obtain ⟨u1, u2⟩ := h.cap
  have hR := h.alloc (Nat.le_refl _) (.cells #[.int .i64 addr, .int .i64 2, .int .u32 v] 68)
  have hbase : w.heap.size + 1 ≤ (w.alloc (.cells #[.int .i64 addr, .int .i64 2, .int .u32 v] 68)).heap.size := by simp
  have HW := Lib.hid ((Below.refl w.heap.size w).alloc (Nat.le_refl _) (.cells #[.int .i64 addr, .int .i64 2, .int .u32 v] 68))
  have c0 : (w.alloc (.cells #[.int .i64 addr, .int .i64 2, .int .u32 v] 68)).cell? ⟨w.heap.size, 0, none⟩ = some (.int .i64 addr) := by go_simp
  have c1 : (w.alloc (.cells #[.int .i64 addr, .int .i64 2, .int .u32 v] 68)).cell? ⟨w.heap.size, 1, none⟩ = some (.int .i64 2) := by go_simp
  have c2 : (w.alloc (.cells #[.int .i64 addr, .int .i64 2, .int .u32 v] 68)).cell? ⟨w.heap.size, 2, none⟩ = some (.int .u32 v) := by go_simp
  go_enter Try.func37, Try.ntmps37
  go_wp2_with (at_builtin; refine wpList_append_row _ rfl (.const (.slice none 0 0)) (.tmp 7) 39 rfl (w.heap.size + 1) 5 i0 (.int .u8 0) 1 1 Try.underlying39 hi hz0 hz1 HZ2.out rfl (by omega) (.slice none 0 0) 0 [] rfl (World.ownsRow_nil _ _ _ _) _ _ n _ rfl hR (u8_one _) (by unfold maxLen; omega) (by omega) hbase ?_; intro v1 w1 hown1 hg1; simp only [Nat.zero_add, List.nil_append] at hown1; have k1 : Below (w.heap.size + 1) (w.alloc (.cells #[.int .i64 addr, .int .i64 2, .int .u32 v] 68)) w1 := Below.grown (Below.refl _ _) hg1 hbase (fun k hk => by cases hk); have d0 := below_cell k1 (Nat.lt_succ_self _) c0; have d1 := below_cell k1 (Nat.lt_succ_self _) c1; have d2 := below_cell k1 (Nat.lt_succ_self _) c2)
  go_ret
  exact ⟨_, rfl, own_base hown1 (Nat.le_succ _), HW.out.trans (k1.mono (Nat.le_succ _))⟩

set_option maxHeartbeats 2000000 in
theorem refStore_bad2 (addr : Int) (h : Row w w.heap.size 1 (.slice A n c) n (zs.map (Value.int .u8))) (hn : n ≤ 140737488355328) (h0 : 0 ≤ addr) (h1 : addr ≤ 4294967295) (hck : checkZ 2 addr n ≠ 0) :
    Calls Try.prog 37 #[.slice A n c, .agg #[.int .i64 addr, .int .i64 2, .int .u32 v]] w fun e w' => ∃ v', e = .returned v' ∧ w'.ownsRow w.heap.size 5 1 v' n ((zs).map (Value.int .u8)) ∧ Below w.heap.size w w' := by
  obtain ⟨i0, hi, hz0, hz1, hz2⟩ := info_parts info_u8
  have HZ2 := Lib.hid hz2
  clear hz2
  have hl : zs.length = n := by have := h.len; simpa using this
  obtain ⟨u1, u2⟩ := h.cap
  have hR := h.alloc (Nat.le_refl _) (.cells #[.int .i64 addr, .int .i64 2, .int .u32 v] 68)
  have hbase : w.heap.size + 1 ≤ (w.alloc (.cells #[.int .i64 addr, .int .i64 2, .int .u32 v] 68)).heap.size := by simp
  have HW := Lib.hid ((Below.refl w.heap.size w).alloc (Nat.le_refl _) (.cells #[.int .i64 addr, .int .i64 2, .int .u32 v] 68))
  have c0 : (w.alloc (.cells #[.int .i64 addr, .int .i64 2, .int .u32 v] 68)).cell? ⟨w.heap.size, 0, none⟩ = some (.int .i64 addr) := by go_simp
  have c1 : (w.alloc (.cells #[.int .i64 addr, .int .i64 2, .int .u32 v] 68)).cell? ⟨w.heap.size, 1, none⟩ = some (.int .i64 2) := by go_simp
  have c2 : (w.alloc (.cells #[.int .i64 addr, .int .i64 2, .int .u32 v] 68)).cell? ⟨w.heap.size, 2, none⟩ = some (.int .u32 v) := by go_simp
  have e1 : (checkZ 2 addr n != 0) = true := by simp; exact hck
  have e2 : addr % 4294967296 = addr := by omega
  clear hck
  go_enter Try.func37, Try.ntmps37
  go_wp2_with (at_builtin; refine wpList_append_row _ rfl (.const (.slice none 0 0)) (.tmp 7) 39 rfl (w.heap.size + 1) 5 i0 (.int .u8 0) 1 1 Try.underlying39 hi hz0 hz1 HZ2.out rfl (by omega) (.slice none 0 0) 0 [] rfl (World.ownsRow_nil _ _ _ _) _ _ n _ rfl hR (u8_one _) (by unfold maxLen; omega) (by omega) hbase ?_; intro v1 w1 hown1 hg1; simp only [Nat.zero_add, List.nil_append] at hown1; have k1 : Below (w.heap.size + 1) (w.alloc (.cells #[.int .i64 addr, .int .i64 2, .int .u32 v] 68)) w1 := Below.grown (Below.refl _ _) hg1 hbase (fun k hk => by cases hk); have d0 := below_cell k1 (Nat.lt_succ_self _) c0; have d1 := below_cell k1 (Nat.lt_succ_self _) c1; have d2 := below_cell k1 (Nat.lt_succ_self _) c2)
  refine (refCheck_any 2 addr n _ h0 h1 (by omega) (by omega)).mono ?_; rintro e w2 ⟨rfl, rfl⟩
  go_wp2_with fail
  go_ret
  exact ⟨_, rfl, own_base hown1 (Nat.le_succ _), HW.out.trans (k1.mono (Nat.le_succ _))⟩

set_option maxHeartbeats 4000000 in
theorem refStore_yes2 (k : Nat) (h : Row w w.heap.size 1 (.slice A n c) n (zs.map (Value.int .u8))) (hn : n ≤ 140737488355328) (hk : (k : Int) ≤ 4294967295) (hv : 0 ≤ v ∧ v ≤ 4294967295) (hck : checkZ 2 k n = 0) :
    Calls Try.prog 37 #[.slice A n c, .agg #[.int .i64 (k : Int), .int .i64 2, .int .u32 v]] w fun e w' => ∃ v', e = .returned v' ∧ w'.ownsRow w.heap.size 5 1 v' n ((put2 zs k v).map (Value.int .u8)) ∧ Below w.heap.size w w' := by
  obtain ⟨_, hr⟩ := checkZ_zero hck
  have HCK := Lib.hid hck
  have hkn : k + 1 < n := by omega
  have hk0 : (0 : Int) ≤ k := by omega
  obtain ⟨v0, v9⟩ := hv
  clear hck
  obtain ⟨i0, hi, hz0, hz1, hz2⟩ := info_parts info_u8
  have HZ2 := Lib.hid hz2
  clear hz2
  have hl : zs.length = n := by have := h.len; simpa using this
  obtain ⟨u1, u2⟩ := h.cap
  have hR := h.alloc (Nat.le_refl _) (.cells #[.int .i64 (k : Int), .int .i64 2, .int .u32 v] 68)
  have hbase : w.heap.size + 1 ≤ (w.alloc (.cells #[.int .i64 (k : Int), .int .i64 2, .int .u32 v] 68)).heap.size := by simp
  have HW := Lib.hid ((Below.refl w.heap.size w).alloc (Nat.le_refl _) (.cells #[.int .i64 (k : Int), .int .i64 2, .int .u32 v] 68))
  have c0 : (w.alloc (.cells #[.int .i64 (k : Int), .int .i64 2, .int .u32 v] 68)).cell? ⟨w.heap.size, 0, none⟩ = some (.int .i64 (k : Int)) := by go_simp
  have c1 : (w.alloc (.cells #[.int .i64 (k : Int), .int .i64 2, .int .u32 v] 68)).cell? ⟨w.heap.size, 1, none⟩ = some (.int .i64 2) := by go_simp
  have c2 : (w.alloc (.cells #[.int .i64 (k : Int), .int .i64 2, .int .u32 v] 68)).cell? ⟨w.heap.size, 2, none⟩ = some (.int .u32 v) := by go_simp
  have e2 : (k : Int) % 4294967296 = k := by omega
  go_enter Try.func37, Try.ntmps37
  go_wp2_with (at_builtin; refine wpList_append_row _ rfl (.const (.slice none 0 0)) (.tmp 7) 39 rfl (w.heap.size + 1) 5 i0 (.int .u8 0) 1 1 Try.underlying39 hi hz0 hz1 HZ2.out rfl (by omega) (.slice none 0 0) 0 [] rfl (World.ownsRow_nil _ _ _ _) _ _ n _ rfl hR (u8_one _) (by unfold maxLen; omega) (by omega) hbase ?_; intro v1 w1 hown1 hg1; simp only [Nat.zero_add, List.nil_append] at hown1; have k1 : Below (w.heap.size + 1) (w.alloc (.cells #[.int .i64 (k : Int), .int .i64 2, .int .u32 v] 68)) w1 := Below.grown (Below.refl _ _) hg1 hbase (fun k hk => by cases hk); have d0 := below_cell k1 (Nat.lt_succ_self _) c0; have d1 := below_cell k1 (Nat.lt_succ_self _) c1; have d2 := below_cell k1 (Nat.lt_succ_self _) c2; obtain ⟨g, cap, rfl, hg0, hgs⟩ := own_form hown1 (by omega); have q0 := own_u8 hown1 k (by omega); have f0 := hown1.frozenAt k; have q1 := own_u8 hown1 (k + 1) (by omega); have f1 := hown1.frozenAt (k + 1))
  refine (refCheck_any 2 k n _ (by omega) hk (by omega) (by omega)).mono ?_; rintro e w2 ⟨rfl, rfl⟩
  rw [HCK.out]
  go_wp2_with fail
  refine wp_loop_rounds 3 ?_
  iterate 3 (rw [rounds_succ]; go_wp2_with fail)
  go_ret
  have o0 := (hown1.stored k (.int .u8 (v % 256))).1
  rw [← List.map_set] at o0
  have o1 := (o0.stored (k + 1) (.int .u8 (v / 256 % 256))).1
  rw [← List.map_set] at o1
  refine ⟨_, rfl, own_base o1 (Nat.le_succ _), ?_⟩
  exact HW.out.trans (Below.setCell (Below.setCell (k1.mono (Nat.le_succ _)) (by simp; omega) _) (by simp; omega) _)

set_option maxHeartbeats 2000000 in
theorem refStore_low4 (addr : Int) (h : Row w w.heap.size 1 (.slice A n c) n (zs.map (Value.int .u8))) (hn : n ≤ 140737488355328) (ha : addr < 0) :
    Calls Try.prog 37 #[.slice A n c, .agg #[.int .i64 addr, .int .i64 4, .int .u32 v]] w fun e w' => ∃ v', e = .returned v' ∧ w'.ownsRow w.heap.size 5 1 v' n ((zs).map (Value.int .u8)) ∧ Below w.heap.size w w' := by
  obtain ⟨i0, hi, hz0, hz1, hz2⟩ := info_parts info_u8
  have HZ2 := Lib.hid hz2
  clear hz2
  have hl : zs.length = n := by have := h.len; simpa using this
  obtain ⟨u1, u2⟩ := h.cap
  have hR := h.alloc (Nat.le_refl _) (.cells #[.int .i64 addr, .int .i64 4, .int .u32 v] 68)
  have hbase : w.heap.size + 1 ≤ (w.alloc (.cells #[.int .i64 addr, .int .i64 4, .int .u32 v] 68)).heap.size := by simp
  have HW := Lib.hid ((Below.refl w.heap.size w).alloc (Nat.le_refl _) (.cells #[.int .i64 addr, .int .i64 4, .int .u32 v] 68))
  have c0 : (w.alloc (.cells #[.int .i64 addr, .int .i64 4, .int .u32 v] 68)).cell? ⟨w.heap.size, 0, none⟩ = some (.int .i64 addr) := by go_simp
  have c1 : (w.alloc (.cells #[.int .i64 addr, .int .i64 4, .int .u32 v] 68)).cell? ⟨w.heap.size, 1, none⟩ = some (.int .i64 4) := by go_simp
  have c2 : (w.alloc (.cells #[.int .i64 addr, .int .i64 4, .int .u32 v] 68)).cell? ⟨w.heap.size, 2, none⟩ = some (.int .u32 v) := by go_simp
  go_enter Try.func37, Try.ntmps37
  go_wp2_with (at_builtin; refine wpList_append_row _ rfl (.const (.slice none 0 0)) (.tmp 7) 39 rfl (w.heap.size + 1) 5 i0 (.int .u8 0) 1 1 Try.underlying39 hi hz0 hz1 HZ2.out rfl (by omega) (.slice none 0 0) 0 [] rfl (World.ownsRow_nil _ _ _ _) _ _ n _ rfl hR (u8_one _) (by unfold maxLen; omega) (by omega) hbase ?_; intro v1 w1 hown1 hg1; simp only [Nat.zero_add, List.nil_append] at hown1; have k1 : Below (w.heap.size + 1) (w.alloc (.cells #[.int .i64 addr, .int .i64 4, .int .u32 v] 68)) w1 := Below.grown (Below.refl _ _) hg1 hbase (fun k hk => by cases hk); have d0 := below_cell k1 (Nat.lt_succ_self _) c0; have d1 := below_cell k1 (Nat.lt_succ_self _) c1; have d2 := below_cell k1 (Nat.lt_succ_self _) c2)
  go_ret
  exact ⟨_, rfl, own_base hown1 (Nat.le_succ _), HW.out.trans (k1.mono (Nat.le_succ _))⟩

set_option maxHeartbeats 2000000 in
theorem refStore_high4 (addr : Int) (h : Row w w.heap.size 1 (.slice A n c) n (zs.map (Value.int .u8))) (hn : n ≤ 140737488355328) (ha : 4294967295 < addr) :
    Calls Try.prog 37 #[.slice A n c, .agg #[.int .i64 addr, .int .i64 4, .int .u32 v]] w fun e w' => ∃ v', e = .returned v' ∧ w'.ownsRow w.heap.size 5 1 v' n ((zs).map (Value.int .u8)) ∧ Below w.heap.size w w' := by
  obtain ⟨i0, hi, hz0, hz1, hz2⟩ := info_parts info_u8
  have HZ2 := Lib.hid hz2
  clear hz2
  have hl : zs.length = n := by have := h.len; simpa using this
  obtain ⟨u1, u2⟩ := h.cap
  have hR := h.alloc (Nat.le_refl _) (.cells #[.int .i64 addr, .int .i64 4, .int .u32 v] 68)
  have hbase : w.heap.size + 1 ≤ (w.alloc (.cells #[.int .i64 addr, .int .i64 4, .int .u32 v] 68)).heap.size := by simp
  have HW := Lib.hid ((Below.refl w.heap.size w).alloc (Nat.le_refl _) (.cells #[.int .i64 addr, .int .i64 4, .int .u32 v] 68))
  have c0 : (w.alloc (.cells #[.int .i64 addr, .int .i64 4, .int .u32 v] 68)).cell? ⟨w.heap.size, 0, none⟩ = some (.int .i64 addr) := by go_simp
  have c1 : (w.alloc (.cells #[.int .i64 addr, .int .i64 4, .int .u32 v] 68)).cell? ⟨w.heap.size, 1, none⟩ = some (.int .i64 4) := by go_simp
  have c2 : (w.alloc (.cells #[.int .i64 addr, .int .i64 4, .int .u32 v] 68)).cell? ⟨w.heap.size, 2, none⟩ = some (.int .u32 v) := by go_simp
  go_enter Try.func37, Try.ntmps37
  go_wp2_with (at_builtin; refine wpList_append_row _ rfl (.const (.slice none 0 0)) (.tmp 7) 39 rfl (w.heap.size + 1) 5 i0 (.int .u8 0) 1 1 Try.underlying39 hi hz0 hz1 HZ2.out rfl (by omega) (.slice none 0 0) 0 [] rfl (World.ownsRow_nil _ _ _ _) _ _ n _ rfl hR (u8_one _) (by unfold maxLen; omega) (by omega) hbase ?_; intro v1 w1 hown1 hg1; simp only [Nat.zero_add, List.nil_append] at hown1; have k1 : Below (w.heap.size + 1) (w.alloc (.cells #[.int .i64 addr, .int .i64 4, .int .u32 v] 68)) w1 := Below.grown (Below.refl _ _) hg1 hbase (fun k hk => by cases hk); have d0 := below_cell k1 (Nat.lt_succ_self _) c0; have d1 := below_cell k1 (Nat.lt_succ_self _) c1; have d2 := below_cell k1 (Nat.lt_succ_self _) c2)
  go_ret
  exact ⟨_, rfl, own_base hown1 (Nat.le_succ _), HW.out.trans (k1.mono (Nat.le_succ _))⟩

set_option maxHeartbeats 2000000 in
theorem refStore_bad4 (addr : Int) (h : Row w w.heap.size 1 (.slice A n c) n (zs.map (Value.int .u8))) (hn : n ≤ 140737488355328) (h0 : 0 ≤ addr) (h1 : addr ≤ 4294967295) (hck : checkZ 4 addr n ≠ 0) :
    Calls Try.prog 37 #[.slice A n c, .agg #[.int .i64 addr, .int .i64 4, .int .u32 v]] w fun e w' => ∃ v', e = .returned v' ∧ w'.ownsRow w.heap.size 5 1 v' n ((zs).map (Value.int .u8)) ∧ Below w.heap.size w w' := by
  obtain ⟨i0, hi, hz0, hz1, hz2⟩ := info_parts info_u8
  have HZ2 := Lib.hid hz2
  clear hz2
  have hl : zs.length = n := by have := h.len; simpa using this
  obtain ⟨u1, u2⟩ := h.cap
  have hR := h.alloc (Nat.le_refl _) (.cells #[.int .i64 addr, .int .i64 4, .int .u32 v] 68)
  have hbase : w.heap.size + 1 ≤ (w.alloc (.cells #[.int .i64 addr, .int .i64 4, .int .u32 v] 68)).heap.size := by simp
  have HW := Lib.hid ((Below.refl w.heap.size w).alloc (Nat.le_refl _) (.cells #[.int .i64 addr, .int .i64 4, .int .u32 v] 68))
  have c0 : (w.alloc (.cells #[.int .i64 addr, .int .i64 4, .int .u32 v] 68)).cell? ⟨w.heap.size, 0, none⟩ = some (.int .i64 addr) := by go_simp
  have c1 : (w.alloc (.cells #[.int .i64 addr, .int .i64 4, .int .u32 v] 68)).cell? ⟨w.heap.size, 1, none⟩ = some (.int .i64 4) := by go_simp
  have c2 : (w.alloc (.cells #[.int .i64 addr, .int .i64 4, .int .u32 v] 68)).cell? ⟨w.heap.size, 2, none⟩ = some (.int .u32 v) := by go_simp
  have e1 : (checkZ 4 addr n != 0) = true := by simp; exact hck
  have e2 : addr % 4294967296 = addr := by omega
  clear hck
  go_enter Try.func37, Try.ntmps37
  go_wp2_with (at_builtin; refine wpList_append_row _ rfl (.const (.slice none 0 0)) (.tmp 7) 39 rfl (w.heap.size + 1) 5 i0 (.int .u8 0) 1 1 Try.underlying39 hi hz0 hz1 HZ2.out rfl (by omega) (.slice none 0 0) 0 [] rfl (World.ownsRow_nil _ _ _ _) _ _ n _ rfl hR (u8_one _) (by unfold maxLen; omega) (by omega) hbase ?_; intro v1 w1 hown1 hg1; simp only [Nat.zero_add, List.nil_append] at hown1; have k1 : Below (w.heap.size + 1) (w.alloc (.cells #[.int .i64 addr, .int .i64 4, .int .u32 v] 68)) w1 := Below.grown (Below.refl _ _) hg1 hbase (fun k hk => by cases hk); have d0 := below_cell k1 (Nat.lt_succ_self _) c0; have d1 := below_cell k1 (Nat.lt_succ_self _) c1; have d2 := below_cell k1 (Nat.lt_succ_self _) c2)
  refine (refCheck_any 4 addr n _ h0 h1 (by omega) (by omega)).mono ?_; rintro e w2 ⟨rfl, rfl⟩
  go_wp2_with fail
  go_ret
  exact ⟨_, rfl, own_base hown1 (Nat.le_succ _), HW.out.trans (k1.mono (Nat.le_succ _))⟩

set_option maxHeartbeats 4000000 in
theorem refStore_yes4 (k : Nat) (h : Row w w.heap.size 1 (.slice A n c) n (zs.map (Value.int .u8))) (hn : n ≤ 140737488355328) (hk : (k : Int) ≤ 4294967295) (hv : 0 ≤ v ∧ v ≤ 4294967295) (hck : checkZ 4 k n = 0) :
    Calls Try.prog 37 #[.slice A n c, .agg #[.int .i64 (k : Int), .int .i64 4, .int .u32 v]] w fun e w' => ∃ v', e = .returned v' ∧ w'.ownsRow w.heap.size 5 1 v' n ((put4 zs k v).map (Value.int .u8)) ∧ Below w.heap.size w w' := by
  obtain ⟨_, hr⟩ := checkZ_zero hck
  have HCK := Lib.hid hck
  have hkn : k + 3 < n := by omega
  have hk0 : (0 : Int) ≤ k := by omega
  obtain ⟨v0, v9⟩ := hv
  clear hck
  obtain ⟨i0, hi, hz0, hz1, hz2⟩ := info_parts info_u8
  have HZ2 := Lib.hid hz2
  clear hz2
  have hl : zs.length = n := by have := h.len; simpa using this
  obtain ⟨u1, u2⟩ := h.cap
  have hR := h.alloc (Nat.le_refl _) (.cells #[.int .i64 (k : Int), .int .i64 4, .int .u32 v] 68)
  have hbase : w.heap.size + 1 ≤ (w.alloc (.cells #[.int .i64 (k : Int), .int .i64 4, .int .u32 v] 68)).heap.size := by simp
  have HW := Lib.hid ((Below.refl w.heap.size w).alloc (Nat.le_refl _) (.cells #[.int .i64 (k : Int), .int .i64 4, .int .u32 v] 68))
  have c0 : (w.alloc (.cells #[.int .i64 (k : Int), .int .i64 4, .int .u32 v] 68)).cell? ⟨w.heap.size, 0, none⟩ = some (.int .i64 (k : Int)) := by go_simp
  have c1 : (w.alloc (.cells #[.int .i64 (k : Int), .int .i64 4, .int .u32 v] 68)).cell? ⟨w.heap.size, 1, none⟩ = some (.int .i64 4) := by go_simp
  have c2 : (w.alloc (.cells #[.int .i64 (k : Int), .int .i64 4, .int .u32 v] 68)).cell? ⟨w.heap.size, 2, none⟩ = some (.int .u32 v) := by go_simp
  have e2 : (k : Int) % 4294967296 = k := by omega
  go_enter Try.func37, Try.ntmps37
  go_wp2_with (at_builtin; refine wpList_append_row _ rfl (.const (.slice none 0 0)) (.tmp 7) 39 rfl (w.heap.size + 1) 5 i0 (.int .u8 0) 1 1 Try.underlying39 hi hz0 hz1 HZ2.out rfl (by omega) (.slice none 0 0) 0 [] rfl (World.ownsRow_nil _ _ _ _) _ _ n _ rfl hR (u8_one _) (by unfold maxLen; omega) (by omega) hbase ?_; intro v1 w1 hown1 hg1; simp only [Nat.zero_add, List.nil_append] at hown1; have k1 : Below (w.heap.size + 1) (w.alloc (.cells #[.int .i64 (k : Int), .int .i64 4, .int .u32 v] 68)) w1 := Below.grown (Below.refl _ _) hg1 hbase (fun k hk => by cases hk); have d0 := below_cell k1 (Nat.lt_succ_self _) c0; have d1 := below_cell k1 (Nat.lt_succ_self _) c1; have d2 := below_cell k1 (Nat.lt_succ_self _) c2; obtain ⟨g, cap, rfl, hg0, hgs⟩ := own_form hown1 (by omega); have q0 := own_u8 hown1 k (by omega); have f0 := hown1.frozenAt k; have q1 := own_u8 hown1 (k + 1) (by omega); have f1 := hown1.frozenAt (k + 1); have q2 := own_u8 hown1 (k + 2) (by omega); have f2 := hown1.frozenAt (k + 2); have q3 := own_u8 hown1 (k + 3) (by omega); have f3 := hown1.frozenAt (k + 3))
  refine (refCheck_any 4 k n _ (by omega) hk (by omega) (by omega)).mono ?_; rintro e w2 ⟨rfl, rfl⟩
  rw [HCK.out]
  go_wp2_with fail
  refine wp_loop_rounds 5 ?_
  iterate 5 (rw [rounds_succ]; go_wp2_with fail)
  go_ret
  have o0 := (hown1.stored k (.int .u8 (v % 256))).1
  rw [← List.map_set] at o0
  have o1 := (o0.stored (k + 1) (.int .u8 (v / 256 % 256))).1
  rw [← List.map_set] at o1
  have o2 := (o1.stored (k + 2) (.int .u8 (v / 65536 % 256))).1
  rw [← List.map_set] at o2
  have o3 := (o2.stored (k + 3) (.int .u8 (v / 16777216))).1
  rw [← List.map_set] at o3
  rw [show put4 zs k v = ((put2 zs k v).set (k + 2) (v / 65536 % 256)).set (k + 3) (v / 16777216) by unfold put4; rw [show v / 16777216 % 256 = v / 16777216 by omega]]
  refine ⟨_, rfl, own_base o3 (Nat.le_succ _), ?_⟩
  exact HW.out.trans (Below.setCell (Below.setCell (Below.setCell (Below.setCell (k1.mono (Nat.le_succ _)) (by simp; omega) _) (by simp; omega) _) (by simp; omega) _) (by simp; omega) _)

theorem refStore_any (size addr : Int) (h : Row w w.heap.size 1 (.slice A n c) n (zs.map (Value.int .u8))) (hn : n ≤ 140737488355328) (hs : -9223372036854775808 ≤ size ∧ size ≤ 9223372036854775807) (ha : -9223372036854775808 ≤ addr ∧ addr ≤ 9223372036854775807) (hv : 0 ≤ v ∧ v ≤ 4294967295) :
    Calls Try.prog 37 #[.slice A n c, .agg #[.int .i64 addr, .int .i64 size, .int .u32 v]] w fun e w' => ∃ v', e = .returned v' ∧ w'.ownsRow w.heap.size 5 1 v' n ((storeZ zs size addr v).map (Value.int .u8)) ∧ Below w.heap.size w w' := by
  have hl : zs.length = n := by have := h.len; simpa using this
  by_cases hq : size ≠ 1 ∧ size ≠ 2 ∧ size ≠ 4
  · rw [storeZ_no (storeOk_no (by omega))]
    exact refStore_size A c n zs v w size addr h hn hs hq
  have hsz : size = 1 ∨ size = 2 ∨ size = 4 := by omega
  by_cases hlow : addr < 0
  · rw [storeZ_no (storeOk_no (by omega))]
    rcases hsz with rfl | rfl | rfl
    · exact refStore_low1 A c n zs v w addr h hn hlow
    · exact refStore_low2 A c n zs v w addr h hn hlow
    · exact refStore_low4 A c n zs v w addr h hn hlow
  by_cases hhigh : 4294967295 < addr
  · rw [storeZ_no (storeOk_no (by omega))]
    rcases hsz with rfl | rfl | rfl
    · exact refStore_high1 A c n zs v w addr h hn hhigh
    · exact refStore_high2 A c n zs v w addr h hn hhigh
    · exact refStore_high4 A c n zs v w addr h hn hhigh
  by_cases hck : checkZ size addr n = 0
  · have hok : storeOk size addr zs.length = true := decide_eq_true ⟨hsz, by omega, by omega, by rw [hl]; exact hck⟩
    obtain ⟨k, rfl⟩ := Int.eq_ofNat_of_zero_le (show 0 ≤ addr by omega)
    unfold storeZ
    rw [if_pos hok]
    rcases hsz with rfl | rfl | rfl
    · exact refStore_yes1 A c n zs v w k h hn (by omega) hv hck
    · exact refStore_yes2 A c n zs v w k h hn (by omega) hv hck
    · exact refStore_yes4 A c n zs v w k h hn (by omega) hv hck
  · rw [storeZ_no (storeOk_no (by rw [hl]; exact fun g => hck g.2.2.2))]
    rcases hsz with rfl | rfl | rfl
    · exact refStore_bad1 A c n zs v w addr h hn (by omega) (by omega) hck
    · exact refStore_bad2 A c n zs v w addr h hn (by omega) (by omega) hck
    · exact refStore_bad4 A c n zs v w addr h hn (by omega) (by omega) hck
end
end Go.Proofs.Ythhoigkmmlkfcaa.Words

/- Contract of the document's own Load. -/
namespace Go.Proofs.Ythhoigkmmlkfcaa.Words
set_option maxRecDepth 100000
open Go.RowKit
set_option linter.unusedVariables false

theorem or_zero_u32 (x : Int) (b : 0 ≤ x ∧ x ≤ 255) : bits .or .u32 0 x = x := by
  have := or_join 0 0 x (by omega) (by omega) (by omega) (by omega) (by omega)
  simpa using this
theorem join2' (x0 x1 : Int) (b0 : 0 ≤ x0 ∧ x0 ≤ 255) (b1 : 0 ≤ x1 ∧ x1 ≤ 255) : bits .or .u32 (bits .or .u32 0 x0) (x1 * 256) = x0 + 256 * x1 := by
  rw [or_zero_u32 x0 b0]
  have e1 := or_join 8 x0 x1 (by omega) (by omega) (by omega) (by omega) (by omega)
  simp only [show (2 : Int) ^ 8 = 256 from rfl] at e1
  rw [e1]; omega
theorem join4' (x0 x1 x2 x3 : Int) (b0 : 0 ≤ x0 ∧ x0 ≤ 255) (b1 : 0 ≤ x1 ∧ x1 ≤ 255) (b2 : 0 ≤ x2 ∧ x2 ≤ 255) (b3 : 0 ≤ x3 ∧ x3 ≤ 255) :
    bits .or .u32 (bits .or .u32 (bits .or .u32 (bits .or .u32 0 x0) (x1 * 256)) (x2 * 65536)) (x3 * 16777216) = x0 + 256 * x1 + 65536 * x2 + 16777216 * x3 := by
  rw [or_zero_u32 x0 b0]; exact join4 x0 x1 x2 x3 b0 b1 b2 b3

set_option maxHeartbeats 1000000 in
theorem refLoad_26 (b off c n k : Nat) (x0 x1 x2 x3 : Int) (w : World) (hn : n ≤ c) (hc : c ≤ 9223372036854775807) (hk : (k : Int) ≤ 4294967295) (hck : checkZ 4 k n = 0)
    (b0 : 0 ≤ x0 ∧ x0 ≤ 255) (b1 : 0 ≤ x1 ∧ x1 ≤ 255) (b2 : 0 ≤ x2 ∧ x2 ≤ 255) (b3 : 0 ≤ x3 ∧ x3 ≤ 255)
    (c0 : w.cell? ⟨b, off + k, none⟩ = some (.int .u8 x0)) (c1 : w.cell? ⟨b, off + (k + 1), none⟩ = some (.int .u8 x1)) (c2 : w.cell? ⟨b, off + (k + 2), none⟩ = some (.int .u8 x2)) (c3 : w.cell? ⟨b, off + (k + 3), none⟩ = some (.int .u8 x3)) :
    Calls Try.prog 22 #[.slice (some ⟨b, off, none⟩) n c, .int .i64 26, .int .u32 (k : Int)] w fun e w' => e = .returned (.int .u32 (extendZ 26 (x0 + 256 * x1 + 65536 * x2 + 16777216 * x3))) ∧ w = w' := by
  obtain ⟨_, hr⟩ := checkZ_zero hck
  have HCK := Lib.hid hck
  have hk1 : k + 3 < n := by omega
  have hk0 : (0 : Int) ≤ k := by omega
  clear hck
  go_enter Try.func22, Try.ntmps22
  go_wp2_with fail
  refine (refSize_any _ _).mono ?_; rintro e w1 ⟨rfl, rfl⟩
  rw [show sizeZ 26 = 4 from rfl]
  go_wp2_with fail
  refine (refForm_any _ _).mono ?_; rintro e w1 ⟨rfl, rfl⟩
  rw [show formZ 26 = 4 from rfl]
  go_wp2_with fail
  refine (refCheck_any 4 k n _ (by omega) hk (by omega) (by omega)).mono ?_; rintro e w1 ⟨rfl, rfl⟩
  rw [HCK.out]
  go_wp2_with fail
  refine wp_loop_rounds 5 ?_
  iterate 5 (rw [rounds_succ]; go_wp2_with fail)
  rw [join4' x0 x1 x2 x3 b0 b1 b2 b3]
  refine (refExtend_any 26 _ _ (by omega) (by omega)).mono ?_; rintro e w1 ⟨rfl, rfl⟩
  go_wp2_with fail
  go_ret
  exact ⟨rfl, rfl⟩

set_option maxHeartbeats 1000000 in
theorem refLoad_27 (b off c n k : Nat) (x0 x1 : Int) (w : World) (hn : n ≤ c) (hc : c ≤ 9223372036854775807) (hk : (k : Int) ≤ 4294967295) (hck : checkZ 2 k n = 0)
    (b0 : 0 ≤ x0 ∧ x0 ≤ 255) (b1 : 0 ≤ x1 ∧ x1 ≤ 255)
    (c0 : w.cell? ⟨b, off + k, none⟩ = some (.int .u8 x0)) (c1 : w.cell? ⟨b, off + (k + 1), none⟩ = some (.int .u8 x1)) :
    Calls Try.prog 22 #[.slice (some ⟨b, off, none⟩) n c, .int .i64 27, .int .u32 (k : Int)] w fun e w' => e = .returned (.int .u32 (extendZ 27 (x0 + 256 * x1))) ∧ w = w' := by
  obtain ⟨_, hr⟩ := checkZ_zero hck
  have HCK := Lib.hid hck
  have hk1 : k + 1 < n := by omega
  have hk0 : (0 : Int) ≤ k := by omega
  clear hck
  go_enter Try.func22, Try.ntmps22
  go_wp2_with fail
  refine (refSize_any _ _).mono ?_; rintro e w1 ⟨rfl, rfl⟩
  rw [show sizeZ 27 = 2 from rfl]
  go_wp2_with fail
  refine (refForm_any _ _).mono ?_; rintro e w1 ⟨rfl, rfl⟩
  rw [show formZ 27 = 4 from rfl]
  go_wp2_with fail
  refine (refCheck_any 2 k n _ (by omega) hk (by omega) (by omega)).mono ?_; rintro e w1 ⟨rfl, rfl⟩
  rw [HCK.out]
  go_wp2_with fail
  refine wp_loop_rounds 3 ?_
  iterate 3 (rw [rounds_succ]; go_wp2_with fail)
  rw [join2' x0 x1 b0 b1]
  refine (refExtend_any 27 _ _ (by omega) (by omega)).mono ?_; rintro e w1 ⟨rfl, rfl⟩
  go_wp2_with fail
  go_ret
  exact ⟨rfl, rfl⟩

set_option maxHeartbeats 1000000 in
theorem refLoad_28 (b off c n k : Nat) (x0 x1 : Int) (w : World) (hn : n ≤ c) (hc : c ≤ 9223372036854775807) (hk : (k : Int) ≤ 4294967295) (hck : checkZ 2 k n = 0)
    (b0 : 0 ≤ x0 ∧ x0 ≤ 255) (b1 : 0 ≤ x1 ∧ x1 ≤ 255)
    (c0 : w.cell? ⟨b, off + k, none⟩ = some (.int .u8 x0)) (c1 : w.cell? ⟨b, off + (k + 1), none⟩ = some (.int .u8 x1)) :
    Calls Try.prog 22 #[.slice (some ⟨b, off, none⟩) n c, .int .i64 28, .int .u32 (k : Int)] w fun e w' => e = .returned (.int .u32 (extendZ 28 (x0 + 256 * x1))) ∧ w = w' := by
  obtain ⟨_, hr⟩ := checkZ_zero hck
  have HCK := Lib.hid hck
  have hk1 : k + 1 < n := by omega
  have hk0 : (0 : Int) ≤ k := by omega
  clear hck
  go_enter Try.func22, Try.ntmps22
  go_wp2_with fail
  refine (refSize_any _ _).mono ?_; rintro e w1 ⟨rfl, rfl⟩
  rw [show sizeZ 28 = 2 from rfl]
  go_wp2_with fail
  refine (refForm_any _ _).mono ?_; rintro e w1 ⟨rfl, rfl⟩
  rw [show formZ 28 = 4 from rfl]
  go_wp2_with fail
  refine (refCheck_any 2 k n _ (by omega) hk (by omega) (by omega)).mono ?_; rintro e w1 ⟨rfl, rfl⟩
  rw [HCK.out]
  go_wp2_with fail
  refine wp_loop_rounds 3 ?_
  iterate 3 (rw [rounds_succ]; go_wp2_with fail)
  rw [join2' x0 x1 b0 b1]
  refine (refExtend_any 28 _ _ (by omega) (by omega)).mono ?_; rintro e w1 ⟨rfl, rfl⟩
  go_wp2_with fail
  go_ret
  exact ⟨rfl, rfl⟩

set_option maxHeartbeats 1000000 in
theorem refLoad_29 (b off c n k : Nat) (x0 : Int) (w : World) (hn : n ≤ c) (hc : c ≤ 9223372036854775807) (hk : (k : Int) ≤ 4294967295) (hck : checkZ 1 k n = 0)
    (b0 : 0 ≤ x0 ∧ x0 ≤ 255)
    (c0 : w.cell? ⟨b, off + k, none⟩ = some (.int .u8 x0)) :
    Calls Try.prog 22 #[.slice (some ⟨b, off, none⟩) n c, .int .i64 29, .int .u32 (k : Int)] w fun e w' => e = .returned (.int .u32 (extendZ 29 x0)) ∧ w = w' := by
  obtain ⟨_, hr⟩ := checkZ_zero hck
  have HCK := Lib.hid hck
  have hk1 : k + 0 < n := by omega
  have hk0 : (0 : Int) ≤ k := by omega
  clear hck
  go_enter Try.func22, Try.ntmps22
  go_wp2_with fail
  refine (refSize_any _ _).mono ?_; rintro e w1 ⟨rfl, rfl⟩
  rw [show sizeZ 29 = 1 from rfl]
  go_wp2_with fail
  refine (refForm_any _ _).mono ?_; rintro e w1 ⟨rfl, rfl⟩
  rw [show formZ 29 = 4 from rfl]
  go_wp2_with fail
  refine (refCheck_any 1 k n _ (by omega) hk (by omega) (by omega)).mono ?_; rintro e w1 ⟨rfl, rfl⟩
  rw [HCK.out]
  go_wp2_with fail
  refine wp_loop_rounds 2 ?_
  iterate 2 (rw [rounds_succ]; go_wp2_with fail)
  rw [or_zero_u32 x0 b0]
  refine (refExtend_any 29 _ _ (by omega) (by omega)).mono ?_; rintro e w1 ⟨rfl, rfl⟩
  go_wp2_with fail
  go_ret
  exact ⟨rfl, rfl⟩

set_option maxHeartbeats 1000000 in
theorem refLoad_30 (b off c n k : Nat) (x0 : Int) (w : World) (hn : n ≤ c) (hc : c ≤ 9223372036854775807) (hk : (k : Int) ≤ 4294967295) (hck : checkZ 1 k n = 0)
    (b0 : 0 ≤ x0 ∧ x0 ≤ 255)
    (c0 : w.cell? ⟨b, off + k, none⟩ = some (.int .u8 x0)) :
    Calls Try.prog 22 #[.slice (some ⟨b, off, none⟩) n c, .int .i64 30, .int .u32 (k : Int)] w fun e w' => e = .returned (.int .u32 (extendZ 30 x0)) ∧ w = w' := by
  obtain ⟨_, hr⟩ := checkZ_zero hck
  have HCK := Lib.hid hck
  have hk1 : k + 0 < n := by omega
  have hk0 : (0 : Int) ≤ k := by omega
  clear hck
  go_enter Try.func22, Try.ntmps22
  go_wp2_with fail
  refine (refSize_any _ _).mono ?_; rintro e w1 ⟨rfl, rfl⟩
  rw [show sizeZ 30 = 1 from rfl]
  go_wp2_with fail
  refine (refForm_any _ _).mono ?_; rintro e w1 ⟨rfl, rfl⟩
  rw [show formZ 30 = 4 from rfl]
  go_wp2_with fail
  refine (refCheck_any 1 k n _ (by omega) hk (by omega) (by omega)).mono ?_; rintro e w1 ⟨rfl, rfl⟩
  rw [HCK.out]
  go_wp2_with fail
  refine wp_loop_rounds 2 ?_
  iterate 2 (rw [rounds_succ]; go_wp2_with fail)
  rw [or_zero_u32 x0 b0]
  refine (refExtend_any 30 _ _ (by omega) (by omega)).mono ?_; rintro e w1 ⟨rfl, rfl⟩
  go_wp2_with fail
  go_ret
  exact ⟨rfl, rfl⟩

theorem refLoad_any (A : Option Addr) (c n B : Nat) (zs : List Int) (op addr : Int) (w : World) (h : Row w B 1 (.slice A n c) n (zs.map (Value.int .u8))) (hz : ∀ x ∈ zs, 0 ≤ x ∧ x ≤ 255) (h0 : 0 ≤ addr) (h1 : addr ≤ 4294967295) :
    Calls Try.prog 22 #[.slice A n c, .int .i64 op, .int .u32 addr] w fun e w' => e = .returned (.int .u32 (loadZ zs op addr)) ∧ w = w' := by
  have hl : zs.length = n := by have := h.len; simpa using this
  obtain ⟨u1, u2⟩ := h.cap
  by_cases hno : op < 26 ∨ 30 < op ∨ checkZ (sizeZ op) addr n ≠ 0
  · exact refLoad_no A c n zs op addr w hl (by omega) h0 h1 hno
  have hck : checkZ (sizeZ op) addr n = 0 := by omega
  have hs := sizeZ_cases op
  have hr := (checkZ_zero hck).2
  obtain ⟨k, rfl⟩ := Int.eq_ofNat_of_zero_le h0
  have hn0 : n ≠ 0 := by omega
  obtain ⟨b, off, rfl, _, hcell⟩ := h.at_ hn0
  rw [loadZ_yes (by omega) (by omega) (by rw [hl]; exact hck), Int.toNat_natCast]
  have hop : op = 26 ∨ op = 27 ∨ op = 28 ∨ op = 29 ∨ op = 30 := by omega
  rcases hop with rfl | rfl | rfl | rfl | rfl
  · exact refLoad_26 b off c n k _ _ _ _ w u1 u2 h1 hck (byte_at hz k) (byte_at hz (k + 1)) (byte_at hz (k + 2)) (byte_at hz (k + 3)) (cell_row hcell k (by have e : sizeZ 26 = 4 := rfl; omega)) (cell_row hcell (k + 1) (by have e : sizeZ 26 = 4 := rfl; omega)) (cell_row hcell (k + 2) (by have e : sizeZ 26 = 4 := rfl; omega)) (cell_row hcell (k + 3) (by have e : sizeZ 26 = 4 := rfl; omega))
  · exact refLoad_27 b off c n k _ _ w u1 u2 h1 hck (byte_at hz k) (byte_at hz (k + 1)) (cell_row hcell k (by have e : sizeZ 27 = 2 := rfl; omega)) (cell_row hcell (k + 1) (by have e : sizeZ 27 = 2 := rfl; omega))
  · exact refLoad_28 b off c n k _ _ w u1 u2 h1 hck (byte_at hz k) (byte_at hz (k + 1)) (cell_row hcell k (by have e : sizeZ 28 = 2 := rfl; omega)) (cell_row hcell (k + 1) (by have e : sizeZ 28 = 2 := rfl; omega))
  · exact refLoad_29 b off c n k _ w u1 u2 h1 hck (byte_at hz k) (cell_row hcell k (by have e : sizeZ 29 = 1 := rfl; omega))
  · exact refLoad_30 b off c n k _ w u1 u2 h1 hck (byte_at hz k) (cell_row hcell k (by have e : sizeZ 30 = 1 := rfl; omega))
end Go.Proofs.Ythhoigkmmlkfcaa.Words

/- Requests that are served: what holds of each state on the way. -/
import Derived.Test.YthhoigkmmlkfcaaSBnkServe
import Derived.Test.YthhoigkmmlkfcaaSAdvLim
import Derived.Test.YthhoigkmmlkfcaaSBnkHold
namespace Go.Proofs.Ythhoigkmmlkfcaa.Words
set_option maxRecDepth 100000
open Go.RowKit
set_option linter.unusedVariables false
set_option linter.unusedSimpArgs false

/-- All that is asked of a state that memory serves. -/
structure SrvA (c : Cfg) (n s : Int) (x : Sta) : Prop where
  inv : SrvI c n s x
  lim : StaLim 0 x
  fits : ∀ q ∈ x.table, q.Fits
  num : NumOk x
theorem SrvA.advance {c : Cfg} (hr : runsB c = true) {lats picks : List Int} {n s : Int} (hn : n ≤ 1000) (hs : s ≤ 1000) {x : Sta} (h : SrvA c n s x) : SrvA c n s (advanceZ c lats picks x) := by
  have h1 := h.inv.advance hr (lats := lats) (picks := picks) hn
  have h2 := (advance_lim (c := c) (lats := lats) (picks := picks) h.lim).1
  have h3 := h1.st
  have h4 := cntS_pos (advanceZ c lats picks x).table
  dsimp only at h3
  exact ⟨h1, ⟨h2.ldq, h2.sdq, h2.aeq, h2.abq, h2.ebq, h2.saq, h2.table, h2.mem, by omega, h2.bytes, h2.ok⟩, advance_fits h.fits, advance_num h.num⟩
theorem SrvA.all {c : Cfg} (hr : runsB c = true) {lats picks : List Int} {n s : Int} (hn : n ≤ 1000) (hs : s ≤ 1000) {x : Sta} (h : SrvA c n s x) : ∀ k, SrvA c n s (advsZ c lats picks x k)
  | 0 => h
  | k + 1 => (SrvA.all hr hn hs h k).advance hr hn hs
/-- The state that the law begins with. -/
def staS (zs : List Int) (l : List Rqs) : Sta := { sta0 with mem := zs, table := l.map zeroQ }
theorem srv_begin {c : Cfg} (hl : 1 ≤ c.lat) {zs : List Int} {l : List Rqs} (hz : ∀ x ∈ zs, 0 ≤ x ∧ x ≤ 255) (h1 : zs.length ≤ 1000) (h2 : l.length ≤ 20) (hf : ∀ q ∈ l, q.Fits) : SrvA c l.length (cntS l) (staS zs l) := by
  refine ⟨srv_first hl l rfl rfl rfl, ⟨by show 0 ≤ 100000; omega, by show 0 ≤ 100000; omega, by show 0 ≤ 100000; omega, by show 0 ≤ 100000; omega, by show 0 ≤ 100000; omega, by show 0 ≤ 100000; omega, ?_, by show zs.length ≤ 100000; omega, by show 0 ≤ 100000 + 0; omega, hz, ⟨sid0_ok, sid0_ok⟩⟩, zero_fits hf, ⟨⟨by show _ ≤ (0 : Int); omega, by show (0 : Int) ≤ _; omega⟩, ⟨by show _ ≤ (0 : Int); omega, by show (0 : Int) ≤ _; omega⟩⟩⟩
  show (l.map zeroQ).length ≤ 100000
  rw [List.length_map]; omega
section
variable {w w7 wr y W5 wd we : World} {bk : Nat} {MV T vd : Value} {l : List Rqs} {q : Rqs} {c : Cfg}
theorem EnvB.keepS {S : Nat → Prop} {sc : List Value} {k : Nat} {w1 w2 : World} (h : EnvB w c sc k w1) (hk : KeepS S w1 w2) (hs : ∀ j, S j → w.heap.size + k + 1 < j) : EnvB w c sc k w2 :=
  ⟨h.cf.keepS hk (fun e => by have := hs _ e; omega), h.sc.keepS hk (fun e => by have := hs _ e; omega), h.bl.trans (hk.below h.bl.size (fun j e => by have := hs j e; omega))⟩
/-- The state while requests are put into its table. -/
structure LayS (w7 : World) (bk : Nat) (MV T : Value) (l : List Rqs) (wr : World) : Prop where
  box : Box wr bk (staL sta0 { vs0 with mem := MV, table := T })
  own : wr.ownsRow w7.heap.size 54 8 T l.length (flat rqsL l)
  bl : Below bk w7 wr
  le : w7.heap.size ≤ wr.heap.size
theorem LayS.below (h : LayS w7 bk MV T l wr) (hB : Below wr.heap.size wr y) : LayS w7 bk MV T l y :=
  ⟨h.box.below hB h.box.lt, own_below h.own hB, h.bl.trans (hB.mono (Nat.le_of_lt h.box.lt)), Nat.le_trans h.le hB.size⟩
theorem LayS.next (h : LayS w7 bk MV T l W5) (hb : bk < w7.heap.size) (hO : wd.ownsRow w7.heap.size 54 8 vd (l.length + 1) (flat rqsL l ++ flat rqsL [q])) (hk : KeepS (fun j => w7.heap.size ≤ j) W5 wd) (hX : Box we bk (staL sta0 { vs0 with mem := MV, table := vd })) (hg : wd.grownBy we (some bk)) : LayS w7 bk MV vd (l ++ [q]) we := by
  have hk2 : KeepS (fun j => j = bk) wd we := KeepS.of_grown hg (fun k e => by injection e with e; exact e.symm)
  have h1 : Below bk W5 wd := hk.below (Nat.le_of_lt h.box.lt) (fun k e => by omega)
  have h2 : Below bk wd we := hk2.below (by have := hk.size; have := h.le; omega) (fun k e => by omega)
  refine ⟨hX, ?_, (h.bl.trans h1).trans h2, Nat.le_trans (Nat.le_trans h.le hk.size) hk2.size⟩
  rw [List.length_append, List.length_singleton, flat_append]
  exact own_keepS hO hk2 (fun g hg e => by have := (hO.lt g hg).1; omega)
theorem LayS.hold {zs : List Int} {n : Nat} (h : LayS w7 bk MV T (l.map zeroQ) wr) (hm : Row w7 bk 1 MV n (zs.map (Value.int .u8))) (hn : zs.length = n) : HoldR bk wr { vs0 with mem := MV, table := T } (staS zs l) := by
  refine ⟨h.box, ⟨Row.nil _ _ _, Row.nil _ _ _, Row.nil _ _ _, Row.nil _ _ _, Row.nil _ _ _, Row.nil _ _ _, Row.of_own h.own, ?_, Row.nil _ _ _⟩, ⟨sid0_ok, sid0_ok⟩⟩
  show Row wr wr.heap.size 1 MV zs.length (bytesL zs)
  rw [hn]
  exact (hm.below h.bl).more (Nat.le_of_lt h.box.lt)
end
end Go.Proofs.Ythhoigkmmlkfcaa.Words

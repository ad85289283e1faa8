/- The law SaqReads walked. -/
import Derived.Test.YtjkijjbakocilaaSaqSame
import Derived.Test.YtjkijjbakocilaaOpenEnt
import Derived.Test.YtjkijjbakocilaaLinBox
import Derived.Test.YtjkijjbakocilaaBoxPut
import Derived.Test.YtjkijjbakocilaaSaqRdMath
import Derived.Test.YtjkijjbakocilaaRefStore
import Derived.Test.YtjkijjbakocilaaBytesAlive
import Derived.Test.YtjkijjbakocilaaRefLoad2
namespace Go.Proofs.Ytjkijjbakocilaa.Words
set_option maxRecDepth 100000
open Go.RowKit
set_option linter.unusedVariables false
set_option linter.unusedSimpArgs false

theorem ent_put (x : Ent) (m : Int) : (entL x).set 4 (.int .u32 m) = entL ⟨x.addr, x.size, x.step, x.known, m⟩ := rfl
set_option maxHeartbeats 4000000 in
theorem saqReads_walk (v : Value) (n : Nat) (zs : List Int) (x : Ent) (op : Int) (w : World) (hr : Row w w.heap.size 1 v n (zs.map (Value.int .u8))) (hz : ∀ x ∈ zs, 0 ≤ x ∧ x ≤ 255) (hx : x.Fits) (ho : -9223372036854775808 ≤ op ∧ op ≤ 9223372036854775807) :
    Calls Try.prog 5 #[v, .agg #[.int .i64 x.addr, .int .i64 x.size, .int .i64 x.step, .bool x.known, .int .u32 x.val], .int .i64 op] w fun e w' => e = .returned (.bool true) ∧ Below w.heap.size w w' := by
  obtain ⟨A, c, rfl⟩ := hr.form
  have hl : zs.length = n := by have := hr.len; simpa using this
  have HL := Lib.hid hl
  have HR := Lib.hid hr
  have HZ := Lib.hid hz
  have HFX := Lib.hid hx
  clear ho hr hz hl
  obtain ⟨W, hW⟩ : ∃ W, W = w.alloc (.cells #[.int .i64 x.addr, .int .i64 x.size, .int .i64 x.step, .bool x.known, .int .u32 x.val] 25) := ⟨_, rfl⟩
  have HXW : Hid (Box W w.heap.size (entL x)) := by rw [hW]; exact Box.new w (entL x) _
  have HBW : Hid (Below w.heap.size w W) := by rw [hW]; exact (Below.refl _ _).alloc (Nat.le_refl _) _
  by_cases hout : 200 < n ∨ x.addr < 0 ∨ 1000 < x.addr
  · have HA := Lib.hid hout
    clear hout
    go_enter Try.func5, Try.ntmps5
    go_wp2_with (first | (rw [← hW]; clear hW))
    refine (alive17_any _).mono ?_
    rintro e w1 ⟨rfl, hb⟩
    have B1 := Lib.hid (HBW.out.trans (hb.mono HBW.out.size))
    have c0 : w1.cell? ⟨w.heap.size, 0, none⟩ = some (.int .i64 x.addr) := (HXW.out.below hb HXW.out.lt).cell rfl
    clear hb hx
    rcases HA.out with h1 | h1 | h1
    all_goals (by_cases g1 : (200 : Int) < n <;> by_cases g2 : x.addr < 0 <;> by_cases g3 : 1000 < x.addr)
    all_goals (first | (exfalso; omega) | (go_wp2_with fail; go_ret; exact ⟨rfl, B1.out⟩))
  have hn : n ≤ 200 := by omega
  have h0 : 0 ≤ x.addr := by omega
  have h1 : x.addr ≤ 1000 := by omega
  have HN := Lib.hid hn
  have g1 : ¬ (200 : Int) < n := by omega
  obtain ⟨m, hm⟩ : ∃ m, m = maskZ x.val x.size := ⟨_, rfl⟩
  have hmf := mask_fits x.val x.size hx.2.2.2.1 hx.2.2.2.2
  have hma := mask_again x.val x.size hx.2.2.2.1 hx.2.2.2.2
  rw [← hm] at hmf hma
  have HM := Lib.hid hm
  have HMF := Lib.hid hmf
  have HMA := Lib.hid hma
  have HY : Hid (Ent.Fits ⟨x.addr, x.size, x.step, x.known, m⟩) := Lib.hid ⟨hx.1, hx.2.1, hx.2.2.1, hmf⟩
  clear hout hn hx hm hmf hma
  have wr : IntKind.u32.wrap x.addr = x.addr := by show x.addr % 4294967296 = _; omega
  go_enter Try.func5, Try.ntmps5
  go_wp2_with (first | (rw [← hW]; clear hW))
  refine (alive17_any _).mono ?_
  rintro e w1 ⟨rfl, hb⟩
  have HX1 := Lib.hid (HXW.out.below hb HXW.out.lt)
  have B1 := Lib.hid (HBW.out.trans (hb.mono HBW.out.size))
  have c0 : w1.cell? ⟨w.heap.size, 0, none⟩ = some (.int .i64 x.addr) := HX1.out.cell rfl
  have c1 : w1.cell? ⟨w.heap.size, 1, none⟩ = some (.int .i64 x.size) := HX1.out.cell rfl
  have c4 : w1.cell? ⟨w.heap.size, 4, none⟩ = some (.int .u32 x.val) := HX1.out.cell rfl
  clear hb
  go_wp2_with fail
  refine (mask_any17 x.val x.size _ HFX.out.2.2.2.1 (by have := HFX.out.2.2.2.2; omega)).mono ?_
  rintro e _ ⟨rfl, rfl⟩
  rw [← HM.out]
  try dsimp only
  go_wp2_with (first
    | (refine wpList_put_cell rfl 23 (.tmp 35) (.tmp 34) rfl w.heap.size 4 (.int .u32 m) rfl rfl rfl (entL x) HX1.out (Nat.lt_succ_self 4) (by kernel_rfl) ?_; intro w2 hX2 hg2; rw [ent_put] at hX2; have HX2 := Lib.hid hX2; have B2 := Lib.hid (Below.grown B1.out hg2 B1.out.size (fun q hq => by injection hq with hq; omega)); clear hX2 hg2 c0 c1 c4; have c0 : w2.cell? ⟨w.heap.size, 0, none⟩ = some (.int .i64 x.addr) := HX2.out.cell rfl)
    | (refine wpList_load_box rfl 25 (.tmp 4) rfl w.heap.size 0 rfl (entL ⟨x.addr, x.size, x.step, x.known, m⟩) [.int .i64 x.addr, .int .i64 x.size, .int .i64 x.step, .bool x.known, .int .u32 m] HX2.out wholeB _ Try.underlying25 rfl 5 (by kernel_rfl) rfl ?_))
  refine (bypass_any17 ⟨x.addr, x.size, x.step, x.known, m⟩ op x.addr _ HY.out).mono ?_
  rintro e w3 ⟨rfl, hb3⟩
  have HX3 := Lib.hid (HX2.out.below hb3 HX2.out.lt)
  have B3 := Lib.hid (B2.out.trans (hb3.mono B2.out.size))
  have R3 := Lib.hid ((HR.out.below B3.out).more B3.out.size)
  clear hb3 HX1 HX2 c0
  have c0 : w3.cell? ⟨w.heap.size, 0, none⟩ = some (.int .i64 x.addr) := HX3.out.cell rfl
  have c1 : w3.cell? ⟨w.heap.size, 1, none⟩ = some (.int .i64 x.size) := HX3.out.cell rfl
  have c4 : w3.cell? ⟨w.heap.size, 4, none⟩ = some (.int .u32 m) := HX3.out.cell rfl
  cases hbp : bypB ⟨x.addr, x.size, x.step, x.known, m⟩ op x.addr
  · try dsimp only
    go_wp2_with fail
    go_ret
    exact ⟨rfl, B3.out⟩
  have h4 : formZ op = 4 ∧ x.size = sizeZ op := by unfold bypB at hbp; simp at hbp; exact ⟨hbp.1.1, hbp.2⟩
  have hv : bypV ⟨x.addr, x.size, x.step, x.known, m⟩ op x.addr = extendZ op m := by unfold bypV; rw [hbp, if_pos rfl]
  rw [hv]
  have H4 := Lib.hid h4
  clear h4 hv hbp
  try dsimp only
  go_wp2_with fail
  refine (refCheck_any x.size x.addr n _ h0 (by omega) HFX.out.2.1 (by have := HN.out; omega)).mono ?_
  rintro e _ ⟨rfl, rfl⟩
  by_cases hck : checkZ x.size x.addr n = 0
  · have q0 : (checkZ x.size x.addr n == 0) = true := by simpa using hck
    have hrd : loadZ (storeZ zs x.size x.addr m) op x.addr = extendZ op m := by
      rw [H4.out.2]
      exact read_behind H4.out.1 h0 (by omega) (by rw [← H4.out.2, HL.out]; exact hck) HMF.out.1 HMF.out.2 (by rw [← H4.out.2]; exact HMA.out)
    have HRD := Lib.hid hrd
    clear hrd hck
    try dsimp only
    go_wp2_with fail
    refine (refStore_any A c n zs m _ x.size x.addr R3.out (by have := HN.out; omega) HFX.out.2.1 HFX.out.1 HMF.out).mono ?_
    rintro e w4 ⟨v4, rfl, hO, hb4⟩
    have HX4 := Lib.hid (HX3.out.below hb4 HX3.out.lt)
    have B4 := Lib.hid (B3.out.trans (hb4.mono B3.out.size))
    have R4 := Lib.hid (Row.of_own hO)
    obtain ⟨A4, e4, hv4⟩ := (Row.of_own hO).form
    subst hv4
    clear hb4 hO c0 c1 c4
    have c0 : w4.cell? ⟨w.heap.size, 0, none⟩ = some (.int .i64 x.addr) := HX4.out.cell rfl
    try dsimp only
    go_wp2_with fail
    refine (refLoad_any A4 e4 n _ (storeZ zs x.size x.addr m) op x.addr _ R4.out (storeZ_bytes HZ.out) h0 (by omega)).mono ?_
    rintro e _ ⟨rfl, rfl⟩
    rw [HRD.out]
    try dsimp only
    go_wp2_with fail
    go_ret
    exact ⟨by first | rfl | simp, B4.out⟩
  · have q0 : (checkZ x.size x.addr n == 0) = false := by simpa using hck
    clear hck
    try dsimp only
    go_wp2_with fail
    go_ret
    exact ⟨rfl, B3.out⟩
end Go.Proofs.Ytjkijjbakocilaa.Words

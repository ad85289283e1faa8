/- The walk of AsmTells: what any text is, or what is wrong with it, and where. -/
import Derived.Test.YtcaibahniheohaaDoorG24
import Derived.Test.YtcaibahniheohaaDoorG08
import Derived.Test.YtcaibahniheohaaDoorG25
namespace Go.Proofs.YtcaibahniheohaaDoor.Words
set_option maxRecDepth 100000
open Go.RowKit Go.Shelf Go.Lib
set_option linter.unusedVariables false
set_option linter.unusedSimpArgs false
theorem layF_bytes (all : List PartZ) : ∀ (xs pre : List PartZ) (p q : Prog), layF all pre xs p = .ok q → (∀ b ∈ p.data, 0 ≤ b ∧ b ≤ 255) → ∀ b ∈ q.data, 0 ≤ b ∧ b ≤ 255
 | [], pre, p, q, h, hp => by
  have e : AsmR.ok p = AsmR.ok q := h
  injection e with e
  subst e; exact hp
 | x :: xs, pre, p, q, h, hp => by
  unfold layF at h
  split at h
  ·split at h
   ·cases h
   ·exact layF_bytes all xs _ _ q h hp
  ·split at h
   ·exact layF_bytes all xs _ _ q h hp
   ·split at h
    ·split at h
     ·cases h
     ·rename_i hc
      refine layF_bytes all xs _ _ q h fun b hb => ?_
      rcases List.mem_append.1 hb with hb | hb
      ·exact hp b hb
      ·simp only [List.mem_singleton] at hb
       subst hb; omega
    ·split at h
     ·split at h
      ·cases h
      ·split at h
       ·exact layF_bytes all xs _ _ q h hp
       ·cases h
     ·exact layF_bytes all xs _ _ q h hp
theorem asm_bytes {l : List UInt8} {p : Prog} (h : asmZ l = .ok p) : ∀ b ∈ p.data, 0 ≤ b ∧ b ≤ 255 := by
 unfold asmZ at h
 split at h
 ·cases h
 ·unfold partsZ at h
  split at h
  ·rename_i t _ _
   cases hl : layF (textT t).2.2 [] (textT t).2.2 ⟨[], 0, []⟩ with
   | bad a e => rw [hl] at h; cases h
   | ok r =>
    rw [hl] at h
    have h2 : checkZ r = .ok p := h
    have e : r = p := by
     unfold checkZ at h2
     split at h2
     ·cases h2
     ·split at h2
      ·injection h2
      ·cases h2
    subst e
    exact layF_bytes _ _ _ _ _ hl (fun b hb => by cases hb)
  ·cases h
def zeroP : Prog := ⟨[], 0, []⟩
theorem zeroP_v (w : World) : ProgV w w.heap.size (.slice none 0 0) (.slice none 0 0) zeroP := ⟨Row.nil _ _ _, Row.nil _ _ _⟩
set_option maxHeartbeats 4000000 in
theorem asmTells_in (l : List UInt8) (w : World) (hT : TabsA w) (hs : l.length ≤ 1500) :
  Calls Tryd.prog 3 #[.string (txt l)] w fun e w' => e = .returned (.bool true) ∧ Below w.heap.size w w' := by
 have cA := alive8_any w hT
 have HT := Lib.hid hT
 have cS := Lib.hid (fun y (hy : TabsA y) => asmRead_short l y (by omega) hy)
 have cR := Lib.hid (fun y (hy : TabsA y) => refAsm_any l y (by omega) hy.1.toL)
 have HBY := Lib.hid (fun p (h : asmZ l = .ok p) => asm_bytes h)
 have hsz : (txt l).size = l.length := txt_sz l
 have q1 : decide (1500 < (l.length : Int)) = false := decide_eq_false (by omega)
 have q2 : decide (1500 < l.length) = false := decide_eq_false (by omega)
 have s0 : (l.length : Int) ≤ 1500 := by omega
 generalize asmZ l = Z at *
 clear hT
 go_enter Tryd.func3, Tryd.ntmps3
 go_wp2_with fail
 refine cA.mono ?_; rintro e w1 ⟨rfl, hb1⟩
 have HB1 := Lib.hid hb1
 clear hb1
 go_wp2_with fail
 refine (cS.out _ (HT.out.below HB1.out)).mono ?_
 rintro e w2 ⟨ho, hb2⟩
 have HB2 := Lib.hid (HB1.out.trans (hb2.mono HB1.out.size))
 cases Z with
 | bad a er =>
  change _ = _ at ho
  subst ho
  clear hb2
  go_wp2_with fail
  refine (cR.out _ (HT.out.below (HB2.out.alloc HB2.out.size _))).mono ?_
  rintro e w3 ⟨ho, hb3⟩
  change _ = _ at ho
  subst ho
  have HB3 := Lib.hid ((HB2.out.alloc HB2.out.size _).trans (hb3.mono (by have := HB2.out.size; simp; omega)))
  have p0 := (below_cell hb3 (by simp) (show (w2.alloc (.cells #[.slice none 0 0, .int .i64 0, .slice none 0 0] 26)).cell? ⟨w2.heap.size, 0, none⟩ = some (.slice none 0 0) by go_simp))
  have p1 := (below_cell hb3 (by simp) (show (w2.alloc (.cells #[.slice none 0 0, .int .i64 0, .slice none 0 0] 26)).cell? ⟨w2.heap.size, 1, none⟩ = some (.int .i64 0) by go_simp))
  have p2 := (below_cell hb3 (by simp) (show (w2.alloc (.cells #[.slice none 0 0, .int .i64 0, .slice none 0 0] 26)).cell? ⟨w2.heap.size, 2, none⟩ = some (.slice none 0 0) by go_simp))
  have hz3 : w2.heap.size < w3.heap.size := by have := hb3.size; simp at this; omega
  have HSM := Lib.hid (fun y => refSame_any none none none none 0 0 0 0 zeroP zeroP y (zeroP_v y) (zeroP_v y) (fun b hb => by cases hb) (fun b hb => by cases hb))
  have HE := Lib.hid (decide_eq_true (rfl : zeroP = zeroP))
  clear hb3
  go_wp2_with fail
  refine (HSM.out _).mono ?_
  rintro e w4 ⟨rfl, hb4⟩
  have HB4 := Lib.hid ((HB3.out.alloc HB3.out.size _).trans (hb4.mono (by have := HB3.out.size; simp; omega)))
  rw [HE.out]
  clear hb4
  go_wp2_with (go_at_call 9; refine (num8_any _ _).mono ?_; rintro e w5 ⟨rfl, rfl⟩)
  go_ret
  exact ⟨rfl, HB4.out⟩
 | ok p =>
  obtain ⟨vc, vd, rfl, ho1, ho2⟩ := ho
  obtain ⟨A1, c1, rfl⟩ := (Row.of_own ho1).form
  obtain ⟨D1, d1, rfl⟩ := (Row.of_own ho2).form
  have HP1 : Hid (ProgV w2 w2.heap.size (.slice A1 p.code.length c1) (.slice D1 p.data.length d1) p) := ⟨Row.of_own ho1, Row.of_own ho2⟩
  have HBB := Lib.hid (HBY.out p rfl)
  clear hb2 ho1 ho2
  go_wp2_with fail
  refine (cR.out _ (HT.out.below (HB2.out.alloc HB2.out.size _))).mono ?_
  rintro e w3 ⟨ho, hb3⟩
  obtain ⟨vc2, vd2, rfl, ho1, ho2⟩ := ho
  obtain ⟨A2, c2, rfl⟩ := (Row.of_own ho1).form
  obtain ⟨D2, d2, rfl⟩ := (Row.of_own ho2).form
  have HB3 := Lib.hid ((HB2.out.alloc HB2.out.size _).trans (hb3.mono (by have := HB2.out.size; simp; omega)))
  have p0 := (below_cell hb3 (by simp) (show (w2.alloc (.cells #[.slice A1 p.code.length c1, .int .i64 p.size, .slice D1 p.data.length d1] 26)).cell? ⟨w2.heap.size, 0, none⟩ = some (.slice A1 p.code.length c1) by go_simp))
  have p1 := (below_cell hb3 (by simp) (show (w2.alloc (.cells #[.slice A1 p.code.length c1, .int .i64 p.size, .slice D1 p.data.length d1] 26)).cell? ⟨w2.heap.size, 1, none⟩ = some (.int .i64 p.size) by go_simp))
  have p2 := (below_cell hb3 (by simp) (show (w2.alloc (.cells #[.slice A1 p.code.length c1, .int .i64 p.size, .slice D1 p.data.length d1] 26)).cell? ⟨w2.heap.size, 2, none⟩ = some (.slice D1 p.data.length d1) by go_simp))
  have hz3 : w2.heap.size < w3.heap.size := by have := hb3.size; simp at this; omega
  have HC1 : Hid (Row w3 w3.heap.size 5 (.slice A1 p.code.length c1) p.code.length (codeCells p.code)) := ((HP1.out.code.alloc (Nat.le_refl _) _).below (hb3.mono (by simp))).more (by omega)
  have HD1 : Hid (Row w3 w3.heap.size 1 (.slice D1 p.data.length d1) p.data.length (p.data.map (Value.int .u8))) := ((HP1.out.data.alloc (Nat.le_refl _) _).below (hb3.mono (by simp))).more (by omega)
  have HC2 := Lib.hid (Row.of_own ho1)
  have HD2 := Lib.hid (Row.of_own ho2)
  have HE := Lib.hid (decide_eq_true (rfl : p = p))
  have HSM := Lib.hid (fun (o : Obj) => refSame_any A1 D1 A2 D2 c1 d1 c2 d2 p p (w3.alloc o) ⟨(HC1.out.alloc (Nat.le_refl _) o).more (by simp), (HD1.out.alloc (Nat.le_refl _) o).more (by simp)⟩ ⟨(HC2.out.alloc (Nat.le_refl _) o).more (by simp), (HD2.out.alloc (Nat.le_refl _) o).more (by simp)⟩ HBB.out HBB.out)
  clear hb3 ho1 ho2 HP1
  go_wp2_with fail
  refine (HSM.out _).mono ?_
  rintro e w4 ⟨rfl, hb4⟩
  have HB4 := Lib.hid ((HB3.out.alloc HB3.out.size _).trans (hb4.mono (by have := HB3.out.size; simp; omega)))
  rw [HE.out]
  clear hb4
  go_wp2_with (go_at_call 9; refine (num8_any _ _).mono ?_; rintro e w5 ⟨rfl, rfl⟩)
  go_ret
  exact ⟨rfl, HB4.out⟩
set_option maxHeartbeats 2000000 in
theorem asmTells_walk (s : ByteArray) (w : World) (hT : TabsA w) (w0 : s.size ≤ 9223372036854775807) :
  Calls Tryd.prog 3 #[.string s] w fun e w' => e = .returned (.bool true) ∧ Below w.heap.size w w' := by
 by_cases h : s.size ≤ 1500
 ·have := asmTells_in s.data.toList w hT (by simpa using h)
  exact this
 have cA := alive8_any w hT
 have q1 : decide (1500 < (s.size : Int)) = true := decide_eq_true (by omega)
 have q2 : decide (1500 < s.size) = true := decide_eq_true (by omega)
 clear hT
 go_enter Tryd.func3, Tryd.ntmps3
 go_wp2_with fail
 refine cA.mono ?_; rintro e w1 ⟨rfl, hb1⟩
 have HB1 := Lib.hid hb1
 clear hb1
 go_wp2_with fail
 go_ret
 exact ⟨rfl, HB1.out⟩
end Go.Proofs.YtcaibahniheohaaDoor.Words

/- Contracts of slices.Index, Contains, IndexFunc, ContainsFunc as package emit calls them, and of what they ask: is a register on E? -/
import Derived.Test.YtcaibahniheohaaEmtData
import Derived.LoopN
namespace Go.Proofs.Ytcaibahniheohaa.Words
set_option maxRecDepth 100000
open Go.RowKit
set_option linter.unusedVariables false
set_option linter.unusedSimpArgs false

theorem mem_step {zs : List Int} {x : Int} {j : Nat} (h : j < zs.length) : (x ∈ zs.drop j) ↔ (x = zs.getD j 0 ∨ x ∈ zs.drop (j + 1)) := by
  rw [List.drop_eq_getElem_cons h, List.getD_eq_getElem?_getD, List.getElem?_eq_getElem h, List.mem_cons]; rfl

set_option maxHeartbeats 1000000 in
theorem index_any (A : Option Addr) (c n : Nat) (zs : List Int) (x : Int) (w : World) (hn : zs.length = n) (hr : Row w w.heap.size 1 (.slice A n c) n (zs.map (Value.int .i64))) (hs : n ≤ 100) :
    Calls Try.prog 51 #[.slice A n c, .int .i64 x] w fun e w' => (∃ k : Int, e = .returned (.int .i64 k) ∧ (0 ≤ k ↔ x ∈ zs)) ∧ w' = w := by
  have HN := Lib.hid hn
  have HR := Lib.hid hr
  have H0 := Lib.hid (show x ∈ zs ↔ x ∈ zs.drop 0 by rw [List.drop_zero])
  clear hr hn
  go_enter Try.func51, Try.ntmps51
  go_wp2_with fail
  go_loopw [8] (fun i wr => ∃ j : Nat, j ≤ n ∧ i = .int .i64 j ∧ wr = w ∧ (x ∈ zs ↔ x ∈ zs.drop j)) (fun i _ => n - (intOf i).toNat)
  case atStart => exact ⟨0, Nat.zero_le _, rfl, rfl, H0.out⟩
  case round =>
    obtain ⟨j, hj, rfl, rfl, hT⟩ := hrel
    have HT := Lib.hid hT
    clear hT
    by_cases hlt : j < n
    · have hl : j < zs.length := by rw [HN.out]; exact hlt
      obtain ⟨b, off, rfl, hb, hcells⟩ := HR.out.at_ (by omega)
      have d0 := hcells j _ (ints_get hl)
      have HS := Lib.hid (mem_step (x := x) hl)
      obtain ⟨r, hre⟩ : ∃ r, r = zs.getD j 0 := ⟨_, rfl⟩
      rw [← hre] at d0 HS
      clear hcells hre hl
      have k0 : (0 : Int) ≤ j := by omega
      have k1 : (j : Int) < n := by omega
      cases hq : (x == r)
      · have hne : ¬ x = r := by simpa using hq
        have HX := Lib.hid hne
        clear hne
        go_wp2_with fail
        go_roundw
        case rel => exact ⟨j + 1, by omega, by go_num, by first | rfl | trivial, by rw [HT.out, HS.out]; exact ⟨fun h => h.resolve_left HX.out, .inr⟩⟩
        case measure => simp only [intOf]; omega
      · have heq : x = r := by simpa using hq
        have HX := Lib.hid heq
        clear heq
        go_wp2_with fail
        go_ret
        exact ⟨⟨_, rfl, ⟨fun _ => by rw [HT.out, HS.out]; exact .inl HX.out, fun _ => by omega⟩⟩, by first | rfl | trivial⟩
    · have HE := Lib.hid (show zs.drop j = [] from List.drop_eq_nil_of_le (by rw [HN.out]; omega))
      go_wp2_with fail
      go_ret
      exact ⟨⟨_, rfl, ⟨fun h => by omega, fun h => by rw [HT.out, HE.out] at h; cases h⟩⟩, by first | rfl | trivial⟩

set_option maxHeartbeats 1000000 in
theorem contains_any (A : Option Addr) (c n : Nat) (zs : List Int) (x : Int) (w : World) (hn : zs.length = n) (hr : Row w w.heap.size 1 (.slice A n c) n (zs.map (Value.int .i64))) (hs : n ≤ 100) :
    Calls Try.prog 47 #[.slice A n c, .int .i64 x] w fun e w' => e = .returned (.bool (decide (x ∈ zs))) ∧ w' = w := by
  have HN := Lib.hid hn
  have HR := Lib.hid hr
  clear hr hn
  go_enter Try.func47, Try.ntmps47
  go_wp2_with fail
  refine (index_any A c n zs x w HN.out HR.out hs).mono ?_; rintro e w1 ⟨⟨k, rfl, hk⟩, rfl⟩
  have HK := Lib.hid hk
  clear hk
  by_cases h : 0 ≤ k
  · have HD := Lib.hid (decide_eq_true (HK.out.1 h))
    have g : decide (0 ≤ k) = true := decide_eq_true h
    go_wp2_with fail
    go_ret
    exact ⟨ret_bool HD.out.symm, by first | rfl | trivial⟩
  · have HD := Lib.hid (decide_eq_false (fun c => h (HK.out.2 c)))
    have g : decide (0 ≤ k) = false := decide_eq_false h
    go_wp2_with fail
    go_ret
    exact ⟨ret_bool HD.out.symm, by first | rfl | trivial⟩

set_option maxHeartbeats 1000000 in
theorem onE_any {b : Nat} {i : Ins} {z : List Int} {pc off : Int} {S : Nat → Prop} {w0 : World} {va ve : Value} {la le : List Cel} (r : Int) (w : World) (h : Em b i z pc off S w0 w va ve la le) (h0 : 0 ≤ r) (h1 : r ≤ 15) :
    Calls Try.prog 45 #[.pointer (some ⟨b, 0, none⟩), .int .i64 r] w fun e w' => e = .returned (.bool (decide (atO z r = 2))) ∧ w' = w := by
  obtain ⟨n, rfl, hn⟩ := nat_of ⟨h0, h1⟩
  have d0 := h.cellR hn
  have e1 : (n : Int) ≤ 15 := by omega
  clear h h0 h1 hn
  go_enter Try.func45, Try.ntmps45
  cases hq : (atO z n == 2)
  · have HD := Lib.hid (show decide (atO z n = 2) = false from decide_eq_false (by simpa using hq))
    go_wp2_with fail
    go_ret
    exact ⟨ret_bool HD.out.symm, by first | rfl | trivial⟩
  · have HD := Lib.hid (show decide (atO z n = 2) = true from decide_eq_true (by simpa using hq))
    go_wp2_with fail
    go_ret
    exact ⟨ret_bool HD.out.symm, by first | rfl | trivial⟩

theorem any_stepE {zs : List Int} {o : List Int} {j : Nat} (h : j < zs.length) : anyEB (zs.drop j) o = (decide (atO o (zs.getD j 0) = 2) || anyEB (zs.drop (j + 1)) o) := any_step h
set_option maxHeartbeats 1000000 in
theorem indexFunc_any {b : Nat} {i : Ins} {z : List Int} {pc off : Int} {S : Nat → Prop} {w0 : World} {va ve : Value} {la le : List Cel} (A : Option Addr) (c n : Nat) (zs : List Int) (w : World) (h : Em b i z pc off S w0 w va ve la le)
    (hn : zs.length = n) (hr : Row w w.heap.size 1 (.slice A n c) n (zs.map (Value.int .i64))) (hs : n ≤ 100) (hz : ∀ r ∈ zs, 0 ≤ r ∧ r ≤ 15) :
    Calls Try.prog 48 #[.slice A n c, .func (.func 45) #[.pointer (some ⟨b, 0, none⟩)] #[]] w fun e w' => (∃ k : Int, e = .returned (.int .i64 k) ∧ decide (0 ≤ k) = anyEB zs z) ∧ w' = w := by
  have HN := Lib.hid hn
  have HR := Lib.hid hr
  have HE := Lib.hid h
  have HZ := Lib.hid hz
  have H0 := Lib.hid (show anyEB zs z = anyEB (zs.drop 0) z by rw [List.drop_zero])
  clear hr hn h hz
  go_enter Try.func48, Try.ntmps48
  go_wp2_with fail
  go_loopw [8] (fun i wr => ∃ j : Nat, j ≤ n ∧ i = .int .i64 j ∧ wr = w ∧ anyEB zs z = anyEB (zs.drop j) z) (fun i _ => n - (intOf i).toNat)
  case atStart => exact ⟨0, Nat.zero_le _, rfl, rfl, H0.out⟩
  case round =>
    obtain ⟨j, hj, rfl, rfl, hT⟩ := hrel
    have HT := Lib.hid hT
    clear hT
    by_cases hlt : j < n
    · have hl : j < zs.length := by rw [HN.out]; exact hlt
      obtain ⟨g, o, rfl, hb, hcells⟩ := HR.out.at_ (by omega)
      have d0 := hcells j _ (ints_get hl)
      have HS := Lib.hid (any_step (o := z) hl)
      have HM := Lib.hid (HZ.out _ (getD_mem hl))
      obtain ⟨r, hre⟩ : ∃ r, r = zs.getD j 0 := ⟨_, rfl⟩
      rw [← hre] at d0 HS HM
      clear hcells hre hl
      have k0 : (0 : Int) ≤ j := by omega
      have k1 : (j : Int) < n := by omega
      go_wp2_with fail
      refine (onE_any r _ HE.out HM.out.1 HM.out.2).mono ?_; rintro e w1 ⟨rfl, rfl⟩
      try dsimp only
      cases hq : decide (atO z r = 2)
      · rw [hq] at HS
        go_wp2_with fail
        go_roundw
        case rel => exact ⟨j + 1, by omega, by go_num, by first | rfl | trivial, by rw [HT.out, HS.out]; rfl⟩
        case measure => simp only [intOf]; omega
      · rw [hq] at HS
        go_wp2_with fail
        go_ret
        exact ⟨⟨_, rfl, by rw [HT.out, HS.out]; simp⟩, by first | rfl | trivial⟩
    · have HE := Lib.hid (show zs.drop j = [] from List.drop_eq_nil_of_le (by rw [HN.out]; omega))
      go_wp2_with fail
      go_ret
      exact ⟨⟨_, rfl, by rw [HT.out, HE.out]; rfl⟩, by first | rfl | trivial⟩

set_option maxHeartbeats 1000000 in
theorem containsFunc_any {b : Nat} {i : Ins} {z : List Int} {pc off : Int} {S : Nat → Prop} {w0 : World} {va ve : Value} {la le : List Cel} (A : Option Addr) (c n : Nat) (zs : List Int) (w : World) (h : Em b i z pc off S w0 w va ve la le)
    (hn : zs.length = n) (hr : Row w w.heap.size 1 (.slice A n c) n (zs.map (Value.int .i64))) (hs : n ≤ 100) (hz : ∀ r ∈ zs, 0 ≤ r ∧ r ≤ 15) :
    Calls Try.prog 44 #[.slice A n c, .func (.func 45) #[.pointer (some ⟨b, 0, none⟩)] #[]] w fun e w' => e = .returned (.bool (anyEB zs z)) ∧ w' = w := by
  have HN := Lib.hid hn
  have HR := Lib.hid hr
  have HE := Lib.hid h
  have HZ := Lib.hid hz
  clear hr hn h hz
  go_enter Try.func44, Try.ntmps44
  go_wp2_with fail
  refine (indexFunc_any A c n zs w HE.out HN.out HR.out hs HZ.out).mono ?_; rintro e w1 ⟨⟨k, rfl, hk⟩, rfl⟩
  have HK := Lib.hid hk
  clear hk
  cases g : decide (0 ≤ k)
  · have HD := Lib.hid (show anyEB zs z = false by rw [← HK.out, g])
    go_wp2_with fail
    go_ret
    exact ⟨ret_bool HD.out.symm, by first | rfl | trivial⟩
  · have HD := Lib.hid (show anyEB zs z = true by rw [← HK.out, g])
    go_wp2_with fail
    go_ret
    exact ⟨ret_bool HD.out.symm, by first | rfl | trivial⟩
end Go.Proofs.Ytcaibahniheohaa.Words

/- The walk of LexStands: each token's text stands where it begins, one behind the other. -/
import Derived.Test.YtdjllgdeijdieaaDoorLexAlive
import Derived.Test.YtdjllgdeijdieaaDoorLexStandMath
namespace Go.Proofs.YtdjllgdeijdieaaDoor.Words
set_option maxRecDepth 100000
open Go.RowKit Go.Shelf Go.Lib
set_option linter.unusedVariables false

theorem endOf_at {t : List Tok} {i : Nat} {k : Tok} (h : t[i]? = some k) : endOf t (i + 1) = k.at_ + k.text.length := by
  rw [endOf_succ, h]; rfl
theorem txt_cut2 {l : List UInt8} {s : ByteArray} (hl : l = s.data.toList) {a : Nat} {x : List UInt8} (h : (l.drop a).take x.length = x) : s.extract a (a + x.length) = txt x := by
  rw [txt_cut, ← hl, h]
theorem txt_size (x : List UInt8) : (txt x).size = x.length := by rw [← data_len]

set_option maxHeartbeats 2000000 in
theorem lexStands_in (s : ByteArray) (w : World) (hT : Tabs w) (hs : s.size ≤ 600) :
    Calls Tryd.prog 4 #[.string s] w fun e w' => e = .returned (.bool true) ∧ Below w.heap.size w w' := by
  have cA := alive7_any w hT
  have HT := Lib.hid hT
  have cS := Lib.hid (fun y (hy : Tabs y) => split_any s y (by omega) hy)
  have hlen := data_len s
  have HG := Lib.hid (lexZ_good (l := s.data.toList) (by omega))
  have HL := Lib.hid hlen
  obtain ⟨l, hl⟩ : ∃ l, l = s.data.toList := ⟨_, rfl⟩
  rw [← hl] at cS HG HL
  have HLL := Lib.hid hl
  have q1 : decide (600 < (s.size : Int)) = false := decide_eq_false (by omega)
  have q2 : decide (600 < s.size) = false := decide_eq_false (by omega)
  have s0 : (s.size : Int) ≤ 600 := by omega
  clear hT hlen hl
  go_enter Tryd.func4, Tryd.ntmps4
  go_wp2_with fail
  refine cA.mono ?_; rintro e w1 ⟨rfl, hb1⟩
  have HB1 := Lib.hid hb1
  clear hb1
  go_wp2_with fail
  refine (cS.out _ (HT.out.below HB1.out)).mono ?_
  rintro e w2 ⟨ho, hb2⟩
  have HB2 := Lib.hid (HB1.out.trans (hb2.mono HB1.out.size))
  cases hZ : lexZ l with
  | bad a er =>
    rw [hZ] at ho HG
    change _ = _ at ho
    subst ho
    obtain ⟨g1, g2⟩ := HG.out
    have hl2 := HL.out
    have ha : (a : Int) < s.size := by omega
    have ha0 : (0 : Int) ≤ a := by omega
    have c1 : decide ((a : Int) < s.size) = true := decide_eq_true ha
    have c2 : decide (a < s.size) = true := decide_eq_true (by omega)
    have he : (er != 0) = true := by rcases g2 with rfl | rfl <;> rfl
    clear hZ hb2 g1 g2 hl2 HG HL
    go_wp2_with (go_at_call 13; refine (num_any _ _).mono ?_; rintro e w3 ⟨rfl, rfl⟩)
    go_ret
    exact ⟨rfl, HB2.out⟩
  | toks t =>
    rw [hZ] at ho HG
    obtain ⟨v, rfl, hown⟩ := ho
    obtain ⟨A, c, rfl⟩ := (Row.of_own hown).form
    have HO := Lib.hid (Row.of_own hown)
    have HGE : Hid (∀ i k, t[i]? = some k → Stands l t i k) := HG.out
    clear hZ hb2 hown HG
    go_wp2_with (go_at_call 13; refine (num_any _ _).mono ?_; rintro e w3 ⟨rfl, rfl⟩)
    go_loopw [7, 8] (fun q i wr => ∃ (k : Nat), k ≤ t.length ∧ q = .int .i64 (endOf t k : Int) ∧ i = .int .i64 k ∧ Below w2.heap.size w2 wr) (fun _ i _ => t.length - (intOf i).toNat)
    case atStart => exact ⟨0, Nat.zero_le _, rfl, rfl, Below.refl _ _⟩
    case round =>
      obtain ⟨k, hk, rfl, rfl, hB⟩ := hrel
      have HBr := Lib.hid hB
      have HKN := Lib.hid hk
      clear hB hk
      by_cases hlt : k < t.length
      · obtain ⟨x, hx⟩ : ∃ x, t[k]? = some x := ⟨_, List.getElem?_eq_getElem hlt⟩
        obtain ⟨g, off, rfl, hgl, _⟩ := HO.out.at_ (by omega)
        have hgr : g < wr.heap.size := Nat.lt_of_lt_of_le hgl HBr.out.size
        obtain ⟨c0, c1, c2, c3⟩ := (HO.out.below HBr.out).tok hx
        obtain ⟨u1, u2⟩ := HO.out.cap
        have u3 : (t.length : Int) ≤ 9223372036854775807 := by omega
        have hst := HGE.out k x hx
        have HEN := Lib.hid (endOf_at hx)
        have HSZ := Lib.hid (txt_size x.text)
        have HCUT := Lib.hid (txt_cut2 HLL.out hst.text)
        have f1 := hst.fits
        have f2 := hst.from_
        obtain ⟨f3, f4⟩ := hst.kind
        have hl2 := HL.out
        have kq : decide ((k : Int) < t.length) = true := decide_eq_true (by omega)
        have kq2 : decide (k < t.length) = true := decide_eq_true hlt
        have k0 : (0 : Int) ≤ k := by omega
        have k1 : (k : Int) < t.length := by omega
        have j1 : decide ((x.at_ : Int) < (endOf t k : Int)) = false := decide_eq_false (by omega)
        have j1' : decide (x.at_ < endOf t k) = false := decide_eq_false (by omega)
        have hB3 : Below w2.heap.size w2 (wr.alloc (.cells #[.int .i64 x.kind, .int .i64 x.num, .int .i64 (x.at_ : Int), .string (txt x.text)] 33)) := HBr.out.alloc HBr.out.size _
        have hne := hst.some_
        have hiso : (txt x.text).toList.isEmpty = false := by
          rw [Lib.toList_data]
          show x.text.isEmpty = false
          cases h : x.text with
          | nil => exact absurd h hne
          | cons _ _ => rfl
        have hem : ((txt x.text).toList == []) = false := by
          rw [beq_eq_false_iff_ne]
          intro e
          rw [e] at hiso
          cases hiso
        have hem2 : ¬ (txt x.text).toList = [] := by
          intro e
          rw [e] at hiso
          cases hiso
        have hcut := HCUT.out
        have hsz := HSZ.out
        generalize txt x.text = TX at *
        generalize x.text.length = n at *
        have n1 : decide ((s.size : Int) < (x.at_ : Int) + n) = false := decide_eq_false (by omega)
        have n2 : IntKind.i64.wrap ((x.at_ : Int) + n) = (x.at_ : Int) + n := IntWalk.i64_in _ (by omega)
        have n3 : decide (x.kind < 1) = false := decide_eq_false (by omega)
        have n4 : decide (4 < x.kind) = false := decide_eq_false (by omega)
        have n5 : (x.at_ : Int) ≤ (x.at_ : Int) + n := by omega
        have n6 : ((x.at_ : Int) + n).toNat = x.at_ + n := by omega
        have n7 : (0 : Int) ≤ (x.at_ : Int) + n := by omega
        have n8 : (x.at_ : Int) + n ≤ s.size := by omega
        have HNM := Lib.hid hst.num
        have HLN := Lib.hid hst.line
        have HBE := Lib.hid hB3
        clear hx hst hne hB3
        go_wp2_with fail
        go_quiet ((fail))
        clear n1 n2 n3 n4 n5 n6 n7 hcut hem hem2 hiso j1 j1'
        have hkp : Hid (k + 1 ≤ t.length) := hlt
        clear hlt
        by_cases h4 : x.kind = 4
        · obtain ⟨u, hu0, hu, hu4⟩ := HLN.out h4
          have hx0 : (x.num != 0) = false := by rw [HNM.out (by rw [h4]; decide)]; rfl
          have hk4 : (x.kind == 4) = true := by simpa using h4
          have hk2 : (x.kind != 2) = true := by rw [h4]; rfl
          obtain ⟨m, rfl⟩ : ∃ m, k = m + 1 := ⟨k - 1, by omega⟩
          rw [Nat.add_sub_cancel] at hu
          obtain ⟨d0, _, _, _⟩ := (HO.out.below HBr.out).tok hu
          have hk0 : ((m : Int) + 1 == 0) = false := by rw [beq_eq_false_iff_ne]; omega
          have hkm1 : (m : Int) < t.length := by omega
          have hkm2 : (0 : Int) ≤ (m : Int) := by omega
          have hkm3 : (m : Int) + 1 < t.length := by omega
          have hu5 : (u.kind == 4) = false := by simpa using hu4
          clear hu hu4 h4
          go_wp2_with fail
          go_roundw
          case rel => exact ⟨m + 1 + 1, hkp.out, by rw [HEN.out]; simp, by go_num, Below.drewN_ HBE.out _⟩
          case measure => have := hkp.out; simp [intOf]; omega
        · have hk4 : (x.kind == 4) = false := by simpa using h4
          by_cases h2 : x.kind = 2
          · have hk2 : (x.kind != 2) = false := by simpa using h2
            clear h4 h2
            go_wp2_with fail
            go_roundw
            case rel => exact ⟨k + 1, hkp.out, by rw [HEN.out]; simp, by go_num, Below.drewN_ HBE.out _⟩
            case measure => have := hkp.out; simp [intOf]; omega
          · have hk2 : (x.kind != 2) = true := by simpa using h2
            have hx0 : (x.num != 0) = false := by rw [HNM.out h2]; rfl
            clear h4 h2
            go_wp2_with fail
            go_roundw
            case rel => exact ⟨k + 1, hkp.out, by rw [HEN.out]; simp, by go_num, Below.drewN_ HBE.out _⟩
            case measure => have := hkp.out; simp [intOf]; omega
      · have kq : decide ((k : Int) < t.length) = false := decide_eq_false (by omega)
        have kq2 : decide (k < t.length) = false := decide_eq_false hlt
        have HBE := Lib.hid (HB2.out.trans (HBr.out.mono HB2.out.size))
        go_wp2_with fail
        go_ret
        exact ⟨rfl, HBE.out⟩

set_option maxHeartbeats 400000 in
theorem lexStands_walk (s : ByteArray) (w : World) (hT : Tabs w) (w0 : s.size ≤ 9223372036854775807) :
    Calls Tryd.prog 4 #[.string s] w fun e w' => e = .returned (.bool true) ∧ Below w.heap.size w w' := by
  by_cases hs : s.size ≤ 600
  · exact lexStands_in s w hT hs
  · have cA := alive7_any w hT
    have q1 : decide (600 < (s.size : Int)) = true := decide_eq_true (by omega)
    have q2 : decide (600 < s.size) = true := decide_eq_true (by omega)
    clear hT
    go_enter Tryd.func4, Tryd.ntmps4
    go_wp2_with fail
    refine cA.mono ?_; rintro e w1 ⟨rfl, hb1⟩
    go_wp2_with fail
    go_ret
    exact ⟨rfl, hb1⟩
end Go.Proofs.YtdjllgdeijdieaaDoor.Words

/- The walk of AsmHex: numbers in base 16 are those in decimal. -/
import Derived.Test.YtfdegdbknponkaaDoorSAsmHexMath
import Derived.Test.YtfdegdbknponkaaDoorG09
import Derived.Laws.BitsLemmas
namespace Go.Proofs.YtfdegdbknponkaaDoor.Words
set_option maxRecDepth 100000
open Go.RowKit Go.Shelf Go.Lib
set_option linter.unusedVariables false
set_option linter.unusedSimpArgs false

theorem and15_i64 (n : Int) : bits .and .i64 n 15 = n % 16 := by
  have h : (BitVec.ofInt 64 15).toNat = 2 ^ 4 - 1 := by decide
  have key : (BitVec.ofInt 64 n &&& BitVec.ofInt 64 15).toNat = (n % ((2 ^ 64 : Nat) : Int)).toNat % 2 ^ 4 := by
    rw [BitVec.toNat_and, BitVec.toNat_ofInt, h, Nat.and_two_pow_sub_one_eq_mod]
  show IntKind.i64.wrap ((BitVec.ofInt 64 n &&& BitVec.ofInt 64 15).toNat : Nat) = n % 16
  rw [key, IntKind.wrap_i64]
  omega
def mixS : ByteArray := ⟨#[48, 49, 50, 51, 52, 53, 54, 55, 56, 57, 97, 66, 99, 68, 101, 70]⟩
theorem mix_cut (m : Nat) (h : m < 16) : mixS.extract m (m + 1) = txt [mixB (hexB false m)] := by
  match m, h with
  | 0, _ => decide
  | 1, _ => decide
  | 2, _ => decide
  | 3, _ => decide
  | 4, _ => decide
  | 5, _ => decide
  | 6, _ => decide
  | 7, _ => decide
  | 8, _ => decide
  | 9, _ => decide
  | 10, _ => decide
  | 11, _ => decide
  | 12, _ => decide
  | 13, _ => decide
  | 14, _ => decide
  | 15, _ => decide
  | n + 16, h => exact absurd h (by omega)
/-- What is still to be written. -/
def mixP (x : Nat) : List UInt8 := if x = 0 then [] else mixL (digs 16 false x)
theorem mixP_step {x : Nat} (h : 0 < x) : mixP x = mixP (x / 16) ++ [mixB (hexB false (x % 16))] := by
  unfold mixP
  rw [if_neg (by omega)]
  by_cases hx : x < 16
  · rw [digs_lo false hx, if_pos (by omega), Nat.mod_eq_of_lt hx]; rfl
  · rw [digs_hi (by omega) false (by omega), if_neg (by omega)]; unfold mixL; simp
theorem mix_len {n : Nat} (h : n ≤ 8191) : (mixL (digs 16 false n)).length ≤ 9 := by
  unfold mixL; rw [List.length_map]; exact hex_len (by omega)
theorem nameN_at (op : Int) : namesZ.getD (op - 1).toNat [] = nameN op := rfl
theorem ownProg {w : World} {base : Nat} {vc vd : Value} {p : Prog} (hc : w.ownsRow base 38 5 vc p.code.length (codeCells p.code)) (hd : w.ownsRow base 5 1 vd p.data.length (p.data.map (Value.int .u8))) : ProgV w w.heap.size vc vd p := ⟨Row.of_own hc, Row.of_own hd⟩

set_option maxHeartbeats 1000000 in
theorem asmHex_out (n op : Int) (w : World) (hT : TabsA w) (hn : -9223372036854775808 ≤ n ∧ n ≤ 9223372036854775807) (ho : -9223372036854775808 ≤ op ∧ op ≤ 9223372036854775807) (h : n < 0 ∨ 8191 < n ∨ op < 17 ∨ 21 < op) :
    Calls Tryd.prog 7 #[.int .i64 n, .int .i64 op] w fun e w' => e = .returned (.bool true) ∧ Below w.heap.size w w' := by
  have cA := alive8_any w hT
  clear hT
  go_enter Tryd.func7, Tryd.ntmps7
  go_wp2_with fail
  refine cA.mono ?_; rintro e w1 ⟨rfl, hb1⟩
  have HB1 := Lib.hid hb1
  clear hb1
  go_wp2
  all_goals first
    | (exfalso; omega)
    | (go_ret; exact ⟨rfl, HB1.out⟩)

set_option maxHeartbeats 4000000 in
theorem asmHex_in (n : Nat) (op : Int) (w : World) (hT : TabsA w) (hn : n ≤ 8191) (ho : 17 ≤ op ∧ op ≤ 21) :
    Calls Tryd.prog 7 #[.int .i64 (n : Int), .int .i64 op] w fun e w' => e = .returned (.bool true) ∧ Below w.heap.size w w' := by
  have cA := alive8_any w hT
  have HT := Lib.hid hT
  have cD := Lib.hid (fun y => dec_any (n : Int) y (by omega))
  have hml := mix_len hn
  have hdl := decN_len (n := (n : Int)) (by omega)
  have hnl := nameN_len (op := op) (by omega)
  obtain ⟨D, hD⟩ : ∃ D, D = mixL (digs 16 false n) := ⟨_, rfl⟩
  obtain ⟨T, hTt⟩ : ∃ T, T = decN (n : Int) := ⟨_, rfl⟩
  have HA1 := Lib.hid (hex_asm ho hn (mix_num (n := n) (by omega)) (by rw [← hD] at hml ⊢; simp only [List.length_cons]; omega))
  have HA2 := Lib.hid (hex_asm ho hn (decN_num (n := (n : Int)) (by omega)) (by omega))
  rw [← hD] at HA1 hml
  rw [← hTt] at HA2 hdl cD
  have cR1 := (fun y (hy : TabsA y) => asmRead_short (nameN op ++ ([32, 114, 49, 44, 32, 114, 50, 44, 32] ++ (48 :: 120 :: D ++ [10, 104, 97, 108, 116]))) y (by simp; omega) hy)
  have cR2 := (fun y (hy : TabsA y) => asmRead_short (nameN op ++ ([32, 114, 49, 44, 32, 114, 50, 44, 32] ++ (T ++ [10, 104, 97, 108, 116]))) y (by simp; omega) hy)
  have j1 : ((txt (nameN op) ++ (⟨#[32, 114, 49, 44, 32, 114, 50, 44, 32, 48, 120]⟩ : ByteArray)) ++ txt D) ++ (⟨#[10, 104, 97, 108, 116]⟩ : ByteArray) = txt (nameN op ++ ([32, 114, 49, 44, 32, 114, 50, 44, 32] ++ (48 :: 120 :: D ++ [10, 104, 97, 108, 116]))) := by
    have e1 : (⟨#[32, 114, 49, 44, 32, 114, 50, 44, 32, 48, 120]⟩ : ByteArray) = txt [32, 114, 49, 44, 32, 114, 50, 44, 32, 48, 120] := rfl
    have e2 : (⟨#[10, 104, 97, 108, 116]⟩ : ByteArray) = txt [10, 104, 97, 108, 116] := rfl
    rw [e1, e2, txt_join, txt_join, txt_join]
    simp
  have j2 : ((txt (nameN op) ++ (⟨#[32, 114, 49, 44, 32, 114, 50, 44, 32]⟩ : ByteArray)) ++ txt T) ++ (⟨#[10, 104, 97, 108, 116]⟩ : ByteArray) = txt (nameN op ++ ([32, 114, 49, 44, 32, 114, 50, 44, 32] ++ (T ++ [10, 104, 97, 108, 116]))) := by
    have e1 : (⟨#[32, 114, 49, 44, 32, 114, 50, 44, 32]⟩ : ByteArray) = txt [32, 114, 49, 44, 32, 114, 50, 44, 32] := rfl
    have e2 : (⟨#[10, 104, 97, 108, 116]⟩ : ByteArray) = txt [10, 104, 97, 108, 116] := rfl
    rw [e1, e2, txt_join, txt_join, txt_join]
    simp
  have u1 : ¬ ((txt (nameN op)).size + (⟨#[32, 114, 49, 44, 32, 114, 50, 44, 32, 48, 120]⟩ : ByteArray).size > 9223372036854775807) := by rw [show (⟨#[32, 114, 49, 44, 32, 114, 50, 44, 32, 48, 120]⟩ : ByteArray).size = 11 from rfl, txt_len]; omega
  have u2 : ¬ ((txt (nameN op) ++ (⟨#[32, 114, 49, 44, 32, 114, 50, 44, 32, 48, 120]⟩ : ByteArray)).size + (txt D).size > 9223372036854775807) := by rw [ByteArray.size_append, show (⟨#[32, 114, 49, 44, 32, 114, 50, 44, 32, 48, 120]⟩ : ByteArray).size = 11 from rfl, txt_len, txt_len]; omega
  have u3 : ¬ (((txt (nameN op) ++ (⟨#[32, 114, 49, 44, 32, 114, 50, 44, 32, 48, 120]⟩ : ByteArray)) ++ txt D).size + (⟨#[10, 104, 97, 108, 116]⟩ : ByteArray).size > 9223372036854775807) := by rw [ByteArray.size_append, ByteArray.size_append, show (⟨#[32, 114, 49, 44, 32, 114, 50, 44, 32, 48, 120]⟩ : ByteArray).size = 11 from rfl, show (⟨#[10, 104, 97, 108, 116]⟩ : ByteArray).size = 5 from rfl, txt_len, txt_len]; omega
  have u4 : ¬ ((txt (nameN op)).size + (⟨#[32, 114, 49, 44, 32, 114, 50, 44, 32]⟩ : ByteArray).size > 9223372036854775807) := by rw [show (⟨#[32, 114, 49, 44, 32, 114, 50, 44, 32]⟩ : ByteArray).size = 9 from rfl, txt_len]; omega
  have u5 : ¬ ((txt (nameN op) ++ (⟨#[32, 114, 49, 44, 32, 114, 50, 44, 32]⟩ : ByteArray)).size + (txt T).size > 9223372036854775807) := by rw [ByteArray.size_append, show (⟨#[32, 114, 49, 44, 32, 114, 50, 44, 32]⟩ : ByteArray).size = 9 from rfl, txt_len, txt_len]; omega
  have u6 : ¬ (((txt (nameN op) ++ (⟨#[32, 114, 49, 44, 32, 114, 50, 44, 32]⟩ : ByteArray)) ++ txt T).size + (⟨#[10, 104, 97, 108, 116]⟩ : ByteArray).size > 9223372036854775807) := by rw [ByteArray.size_append, ByteArray.size_append, show (⟨#[32, 114, 49, 44, 32, 114, 50, 44, 32]⟩ : ByteArray).size = 9 from rfl, show (⟨#[10, 104, 97, 108, 116]⟩ : ByteArray).size = 5 from rfl, txt_len, txt_len]; omega
  obtain ⟨T1, hT1⟩ : ∃ T1, T1 = txt (nameN op ++ ([32, 114, 49, 44, 32, 114, 50, 44, 32] ++ (48 :: 120 :: D ++ [10, 104, 97, 108, 116]))) := ⟨_, rfl⟩
  rw [← hT1] at j1 cR1
  have HJ1 := Lib.hid j1
  obtain ⟨T2, hT2⟩ : ∃ T2, T2 = txt (nameN op ++ ([32, 114, 49, 44, 32, 114, 50, 44, 32] ++ (T ++ [10, 104, 97, 108, 116]))) := ⟨_, rfl⟩
  rw [← hT2] at j2 cR2
  have HJ2 := Lib.hid j2
  have U1 := Lib.hid u1
  have CR1 := Lib.hid cR1
  have CR2 := Lib.hid cR2
  clear cR1 cR2 hT1 hT2
  have U2 := Lib.hid u2
  have U3 := Lib.hid u3
  have U4 := Lib.hid u4
  have U5 := Lib.hid u5
  have U6 := Lib.hid u6
  have HD := Lib.hid hD
  have HML := Lib.hid hml
  obtain ⟨k, hk⟩ : ∃ k : Nat, op - 1 = (k : Int) := ⟨(op - 1).toNat, by omega⟩
  have hk41 : k < 41 := by omega
  have HK := Lib.hid hk41
  have hkname : namesZ.getD k [] = nameN op := by rw [← nameN_at, hk]; rfl
  have HKN := Lib.hid hkname
  have HKK := Lib.hid hk
  have HN := Lib.hid hn
  have HO := Lib.hid ho
  have g1 : decide ((n : Int) < 0) = false := decide_eq_false (by omega)
  have g2 : decide (8191 < (n : Int)) = false := decide_eq_false (by omega)
  have g3 : decide (op < 17) = false := decide_eq_false (by omega)
  have g4 : decide (21 < op) = false := decide_eq_false (by omega)
  have n0 : (0 : Int) ≤ n := by omega
  clear hT hml hdl hnl hD hTt j1 j2 u1 u2 u3 u4 u5 u6 hk hk41 hkname hn ho
  go_enter Tryd.func7, Tryd.ntmps7
  go_wp2_with fail
  refine cA.mono ?_; rintro e w1 ⟨rfl, hb1⟩
  have HB1 := Lib.hid hb1
  have HT1 := Lib.hid (HT.out.below hb1)
  clear hb1
  go_wp2_with fail
  go_loopw [6, 7] (fun q i wr => ∃ (x : Nat) (t : List UInt8), q = .string (txt t) ∧ i = .int .i64 x ∧ ((mixP x ++ t = D ∧ (x = 0 → t ≠ [])) ∨ (n = 0 ∧ x = 0 ∧ t = [])) ∧ x ≤ 8191 ∧ wr = w1) (fun q i _ => match q with | .string s => 2 * (intOf i).toNat + (1 - s.size) | _ => 0)
  case atStart =>
    have hn := HN.out
    refine ⟨n, [], rfl, rfl, ?_, hn, rfl⟩
    by_cases h0 : n = 0
    · exact .inr ⟨h0, h0, rfl⟩
    · refine .inl ⟨?_, fun e => absurd e h0⟩
      rw [List.append_nil, HD.out]; unfold mixP; rw [if_neg h0]
  case round =>
    obtain ⟨x, t, rfl, rfl, ht, hx, rfl⟩ := hrel
    by_cases h0x : 0 < x
    · have ht2 : mixP x ++ t = D := by rcases ht with h | h; exact h.1; omega
      have HT2 := Lib.hid ht2
      have htl : t.length ≤ 9 := by
        have := HML.out
        rw [← ht2, List.length_append] at this
        omega
      have HST := Lib.hid (mixP_step h0x)
      obtain ⟨m, hm⟩ : ∃ m, m = x % 16 := ⟨_, rfl⟩
      have hm16 : m < 16 := by omega
      rw [← hm] at HST
      have hbit : bits .and .i64 (x : Int) 15 = (m : Int) := by rw [and15_i64]; omega
      have hc : (⟨#[48, 49, 50, 51, 52, 53, 54, 55, 56, 57, 97, 66, 99, 68, 101, 70]⟩ : ByteArray).extract m (m + 1) = txt [mixB (hexB false m)] := mix_cut m hm16
      have hcs : (⟨#[48, 49, 50, 51, 52, 53, 54, 55, 56, 57, 97, 66, 99, 68, 101, 70]⟩ : ByteArray).size = 16 := rfl
      have m0 : (0 : Int) ≤ m := by omega
      have m1 : (m : Int) + 1 ≤ 16 := by omega
      have x0 : decide (0 < (x : Int)) = true := decide_eq_true (by omega)
      have x0' : decide (0 < x) = true := decide_eq_true h0x
      have x1 : (x : Int) ≤ 8191 := by omega
      have x2 : (0 : Int) < x := by omega
      have hs1 := txt_len t
      have hs2 := txt_len [mixB (hexB false m)]
      have HJ := Lib.hid (txt_join [mixB (hexB false m)] t)
      have HX := Lib.hid (show x / 16 ≤ 8191 by omega)
      have HXX := Lib.hid (show x / 16 < x by omega)
      generalize hXT : txt t = XT at *
      generalize hYT : txt [mixB (hexB false m)] = YT at *
      have hsum : ¬ (YT.size + XT.size > 9223372036854775807) := by rw [hs1, hs2]; simp; omega
      have HXT := Lib.hid hXT
      clear hm ht ht2 hs1 hs2 hXT hYT htl
      go_wp2_with fail
      go_roundw
      case rel =>
        refine ⟨x / 16, mixB (hexB false m) :: t, ?_, ?_, .inl ⟨?_, fun _ => by simp⟩, HX.out, ?_⟩
        · rw [HJ.out]; rfl
        · congr 1
        · have h1 := HT2.out
          rw [HST.out, List.append_assoc] at h1
          exact h1
        · first | rfl | trivial
      case measure =>
        have h2 := HXX.out
        have h3 : (YT ++ XT).size = YT.size + XT.size := ByteArray.size_append
        show 2 * ((x : Int) / 16).toNat + (1 - (YT ++ XT).size) < 2 * (x : Int).toNat + (1 - XT.size)
        omega
    · have hx0 : x = 0 := by omega
      subst hx0
      by_cases hte : t = []
      · subst hte
        have hn0 : n = 0 := by rcases ht with h | h; exact absurd rfl (h.2 rfl); exact h.1
        have HN0 := Lib.hid hn0
        have hbit : bits .and .i64 (0 : Int) 15 = 0 := by decide
        have hc : (⟨#[48, 49, 50, 51, 52, 53, 54, 55, 56, 57, 97, 66, 99, 68, 101, 70]⟩ : ByteArray).extract 0 1 = (⟨#[48]⟩ : ByteArray) := by decide
        have hc0 : txt [] = (⟨#[]⟩ : ByteArray) := rfl
        rw [hc0]
        have he0 : ((⟨#[]⟩ : ByteArray).toList == []) = true := by rw [Lib.toList_data]; decide
        have hcat0 : (⟨#[48]⟩ : ByteArray) ++ (⟨#[]⟩ : ByteArray) = ⟨#[48]⟩ := by decide
        have hsum0 : ¬ ((⟨#[48]⟩ : ByteArray).size + (⟨#[]⟩ : ByteArray).size > 9223372036854775807) := by decide
        clear ht hn0 hc0
        go_wp2_with fail
        go_roundw
        case rel =>
          refine ⟨0, [48], rfl, rfl, .inl ⟨?_, fun _ => by simp⟩, by omega, by first | rfl | trivial⟩
          rw [HD.out, HN0.out]
          decide
        case measure => decide
      · have htD : t = D := by
          rcases ht with h | h
          · have h1 := h.1
            rw [show mixP 0 = [] from rfl, List.nil_append] at h1
            exact h1
          · exact absurd h.2.2 hte
        subst htD
        have hem : ((txt t).toList == []) = false := by
          rw [beq_eq_false_iff_ne, Lib.toList_data]
          exact hte
        have hem2 : ¬ (txt t).toList = [] := by
          rw [Lib.toList_data]
          exact hte
        have hk := HKK.out
        have hk0 : (0 : Int) ≤ k := by omega
        have hk41 : (k : Int) < 41 := by have := HK.out; omega
        clear ht hte
        generalize hXD : txt t = XD at *
        go_wp2_with fail
        refine (refNames_any _).mono ?_; rintro e w2 ⟨A2, c2, rfl, hr2, hb2⟩
        have HB2 := Lib.hid (HB1.out.trans (hb2.mono HB1.out.size))
        obtain ⟨g2, o2, rfl, hgl2, _⟩ := hr2.at_ (by omega)
        have hnm := names_row (n := 41) hr2 HK.out
        rw [HKN.out] at hnm
        have HT2 := Lib.hid (HT1.out.below hb2)
        have v1 := U1.out
        have v2 := U2.out
        have v3 := U3.out
        have v4 := U4.out
        have v5 := U5.out
        have v6 := U6.out
        have w1j := HJ1.out
        have w2j := HJ2.out
        clear hb2 hr2 hem hem2
        try dsimp only
        generalize txt (nameN op) = X at *
        generalize hXT : txt T = XT at *
        go_wp2_with fail
        refine (CR1.out _ HT2.out).mono ?_
        rintro e w3 ⟨ho3, hb3⟩
        rw [HA1.out] at ho3
        obtain ⟨vc1, vd1, rfl, hc1, hd1⟩ := ho3
        change w3.ownsRow _ _ 5 vc1 2 (codeCells [hexIns op n, haltI8]) at hc1
        change w3.ownsRow _ _ 1 vd1 0 [] at hd1
        have HB3 := Lib.hid (HB2.out.trans (hb3.mono HB2.out.size))
        have HT3 := Lib.hid (HT2.out.below hb3)
        have HC1 := Lib.hid (Row.of_own hc1)
        have HD1 := Lib.hid (Row.of_own hd1)
        obtain ⟨Ac1, cc1, rfl⟩ := HC1.out.form
        obtain ⟨Ad1, cd1, rfl⟩ := HD1.out.form
        obtain ⟨g3, o3, rfl, hgl3, _⟩ := HC1.out.at_ (by omega)
        clear hb3 hc1 hd1
        try dsimp only [hexProg]
        go_wp2_with (go_at_call 20; refine (cD.out _).mono ?_; rintro e w4 ⟨rfl, rfl⟩)
        have hsz3 : (w3.alloc (.cells #[.slice (some ⟨g3, o3, none⟩) 2 cc1, .int .i64 0, .slice Ad1 0 cd1] 26)).heap.size = w3.heap.size + 1 := by simp
        have z0 : (w3.alloc (.cells #[.slice (some ⟨g3, o3, none⟩) 2 cc1, .int .i64 0, .slice Ad1 0 cd1] 26)).cell? ⟨w3.heap.size, 0, none⟩ = some (.slice (some ⟨g3, o3, none⟩) 2 cc1) := by go_simp
        have z1 : (w3.alloc (.cells #[.slice (some ⟨g3, o3, none⟩) 2 cc1, .int .i64 0, .slice Ad1 0 cd1] 26)).cell? ⟨w3.heap.size, 1, none⟩ = some (.int .i64 0) := by go_simp
        have z2 : (w3.alloc (.cells #[.slice (some ⟨g3, o3, none⟩) 2 cc1, .int .i64 0, .slice Ad1 0 cd1] 26)).cell? ⟨w3.heap.size, 2, none⟩ = some (.slice Ad1 0 cd1) := by go_simp
        have B4 : Hid (Below w3.heap.size w3 (w3.alloc (.cells #[.slice (some ⟨g3, o3, none⟩) 2 cc1, .int .i64 0, .slice Ad1 0 cd1] 26))) := (Below.refl _ _).alloc (Nat.le_refl _) _
        generalize (w3.alloc (.cells #[.slice (some ⟨g3, o3, none⟩) 2 cc1, .int .i64 0, .slice Ad1 0 cd1] 26)) = w4 at *
        refine (CR2.out _ (HT3.out.below B4.out)).mono ?_
        rintro e w5 ⟨ho5, hb5⟩
        rw [HA2.out] at ho5
        obtain ⟨vc2, vd2, rfl, hc2, hd2⟩ := ho5
        change w5.ownsRow _ _ 5 vc2 2 (codeCells [hexIns op n, haltI8]) at hc2
        change w5.ownsRow _ _ 1 vd2 0 [] at hd2
        have HC2 := Lib.hid (Row.of_own hc2)
        have HD2 := Lib.hid (Row.of_own hd2)
        obtain ⟨Ac2, cc2, rfl⟩ := HC2.out.form
        obtain ⟨Ad2, cd2, rfl⟩ := HD2.out.form
        have B5 := Lib.hid hb5
        have y0 := below_cell hb5 (by omega) z0
        have y1 := below_cell hb5 (by omega) z1
        have y2 := below_cell hb5 (by omega) z2
        have hz5 : w3.heap.size < w5.heap.size := by have := hb5.size; omega
        have HZ := Lib.hid hsz3
        clear hb5 hc2 hd2 z0 z1 z2 hsz3
        try dsimp only [hexProg]
        go_wp2_with (go_at_call 16; refine (num8_any _ _).mono ?_; rintro e w9 ⟨rfl, rfl⟩)
        have hsz5 : (w5.alloc (.cells #[.slice Ac2 2 cc2, .int .i64 0, .slice Ad2 0 cd2] 26)).heap.size = w5.heap.size + 1 := by simp
        have B6 : Hid (Below w5.heap.size w5 (w5.alloc (.cells #[.slice Ac2 2 cc2, .int .i64 0, .slice Ad2 0 cd2] 26))) := (Below.refl _ _).alloc (Nat.le_refl _) _
        have q0 := below_cell B6.out (by omega) y0
        generalize (w5.alloc (.cells #[.slice Ac2 2 cc2, .int .i64 0, .slice Ad2 0 cd2] 26)) = w6 at *
        have hR1 := ((((HC1.out.below B4.out).more (Nat.le_of_lt (show w3.heap.size < w4.heap.size by have := HZ.out; omega))).below B5.out).more B5.out.size).below B6.out
        have hR2 := ((((HD1.out.below B4.out).more (Nat.le_of_lt (show w3.heap.size < w4.heap.size by have := HZ.out; omega))).below B5.out).more B5.out.size).below B6.out
        refine (refSame_any (some ⟨g3, o3, none⟩) Ad1 Ac2 Ad2 cc1 cd1 cc2 cd2 (hexProg op n) (hexProg op n) _ ⟨hR1.more (by omega), hR2.more (by omega)⟩ ⟨(HC2.out.below B6.out).more (by omega), (HD2.out.below B6.out).more (by omega)⟩ (fun b hb => by simp [hexProg] at hb) (fun b hb => by simp [hexProg] at hb)).mono ?_
        rintro e w7 ⟨rfl, hb7⟩
        rw [decide_eq_true (Eq.refl (hexProg op n))]
        have p0 := below_cell hb7 (by omega) q0
        have hR3 := (hR1.more (by omega)).below hb7
        obtain ⟨_, _, _, _, x4⟩ := Row.ins (l := [hexIns op n, haltI8]) hR3 (k := 0) (i := hexIns op n) rfl
        simp only [hexIns, Nat.zero_mul, Nat.add_zero] at x4
        have HB7 := Lib.hid ((((HB3.out.trans (B4.out.mono HB3.out.size)).trans (B5.out.mono (Nat.le_trans HB3.out.size B4.out.size))).trans (B6.out.mono (Nat.le_trans (Nat.le_trans HB3.out.size B4.out.size) B5.out.size))).trans (hb7.mono (Nat.le_trans (Nat.le_trans (Nat.le_trans HB3.out.size B4.out.size) B5.out.size) B6.out.size)))
        clear hR1 hR2 hR3 hb7 q0 y0 y1 y2
        try dsimp only
        go_wp2_with fail
        go_ret
        exact ⟨by first | rfl | simp, HB7.out⟩
theorem asmHex_walk (a0 a1 : Int) (w : World) (hT : TabsA w) (w0 : -9223372036854775808 ≤ a0 ∧ a0 ≤ 9223372036854775807) (w1 : -9223372036854775808 ≤ a1 ∧ a1 ≤ 9223372036854775807) :
    Calls Tryd.prog 7 #[.int .i64 a0, .int .i64 a1] w fun e w' => e = .returned (.bool true) ∧ Below w.heap.size w w' := by
  by_cases h : a0 < 0 ∨ 8191 < a0 ∨ a1 < 17 ∨ 21 < a1
  · exact asmHex_out a0 a1 w hT w0 w1 h
  · obtain ⟨k, rfl⟩ : ∃ k : Nat, a0 = k := ⟨a0.toNat, by omega⟩
    exact asmHex_in k a1 w hT (by omega) (by omega)
end Go.Proofs.YtfdegdbknponkaaDoor.Words

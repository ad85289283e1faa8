/- The walk of AsmLabels: a branch to a label is a branch by as many places. -/
import Derived.Test.YtfdegdbknponkaaDoorSAsmLabMath
import Derived.Test.YtfdegdbknponkaaDoorG09
namespace Go.Proofs.YtfdegdbknponkaaDoor.Words
set_option maxRecDepth 100000
open Go.RowKit Go.Shelf Go.Lib
set_option linter.unusedVariables false
set_option linter.unusedSimpArgs false

theorem nameN_atL (op : Int) : namesZ.getD (op - 1).toNat [] = nameN op := rfl
def labLine (from_ to : Nat) (op : Int) (i : Nat) : List UInt8 := pcText (labPcs (decide (i = to)) (decide (i = from_)) op)
def labUpto (from_ to : Nat) (op : Int) (i : Nat) : List UInt8 := (List.range' 0 i).flatMap (labLine from_ to op)
theorem labUpto_succ (from_ to : Nat) (op : Int) (i : Nat) : labUpto from_ to op (i + 1) = labUpto from_ to op i ++ labLine from_ to op i := by
  unfold labUpto
  rw [List.range'_concat, List.flatMap_append]
  simp
theorem labUpto_all (n from_ to : Nat) (op : Int) : labUpto from_ to op n = labText n from_ to op := rfl
theorem lab_h (b : Bool) (op : Int) (c : Bool) : pcText (labPcs c b op) = (if c = true then [104, 101, 114, 101, 58, 32, 10, 32, 116, 104, 101, 114, 101, 58] else []) ++ pcText (labPcs false b op) := by
  cases c
  · rfl
  · have e : pcText (labHead true) = [104, 101, 114, 101, 58, 32, 10, 32, 116, 104, 101, 114, 101, 58] := by decide +kernel
    unfold labPcs
    rw [pcText_append, e]
    rfl
theorem lab_n (op : Int) : pcText (labPcs false false op) = [32, 104, 97, 108, 116, 10, 10] := by
  show pcText ([SP] ++ (insPcs haltL [] [] ++ [.line, .line])) = _
  decide +kernel
theorem lab_j : pcText (labPcs false true 40) = [32, 106, 32, 104, 101, 114, 101, 10] := by decide +kernel
theorem lab_b {op : Int} (ho : 34 ≤ op ∧ op ≤ 40) (h : op ≠ 40) : pcText (labPcs false true op) = [32] ++ (nameN op ++ [32, 114, 49, 44, 32, 114, 50, 44, 32, 116, 104, 101, 114, 101, 32, 35, 32, 120, 10]) := by
  have hf : formZ op = 6 := by have := formZ_cases op; omega
  have e1 : regN 1 = [114, 49] := by decide +kernel
  have e2 : regN 2 = [114, 50] := by decide +kernel
  have e3 : thereN ≠ [] := by simp [thereN]
  show pcText ([SP] ++ (insPcs (labIns op 0) (labTgt op) [48] ++ labEnd true op)) = _
  have hi : labIns op 0 = ⟨op, 0, 1, 2, 0⟩ := by unfold labIns; rw [if_neg h]
  have ht : labTgt op = thereN := by unfold labTgt; rw [if_neg h]
  have he : labEnd true op = [SP, .hash [32, 120], .line] := by unfold labEnd; rw [if_pos rfl, if_neg h]
  rw [hi, ht, he]
  unfold insPcs tgtP
  simp only
  rw [hf, e1, e2, if_neg e3]
  simp [pcText, Pc.text, thereN]
theorem labLine_len {op : Int} (ho : 34 ≤ op ∧ op ≤ 40) (from_ to i : Nat) : (labLine from_ to op i).length ≤ 45 := by
  have hnl := nameN_len (op := op) (by omega)
  unfold labLine
  rw [lab_h, List.length_append]
  have h1 : ∀ c : Bool, (if c = true then [104, 101, 114, 101, 58, 32, 10, 32, 116, 104, 101, 114, 101, 58] else ([] : List UInt8)).length ≤ 14 := by intro c; cases c <;> simp
  have h2 : ∀ b : Bool, (pcText (labPcs false b op)).length ≤ 30 := by
    intro b
    cases b
    · rw [lab_n]; simp
    · by_cases h : op = 40
      · subst h; rw [lab_j]; simp
      · rw [lab_b ho h]; simp; omega
  have := h1 (decide (i = to))
  have := h2 (decide (i = from_))
  omega
theorem labUpto_len {op : Int} (ho : 34 ≤ op ∧ op ≤ 40) (from_ to : Nat) : ∀ i, (labUpto from_ to op i).length ≤ 45 * i
  | 0 => by simp [labUpto]
  | i + 1 => by
    have := labUpto_len ho from_ to i
    have := labLine_len ho from_ to i
    rw [labUpto_succ, List.length_append]
    omega

set_option maxHeartbeats 4000000 in
theorem asmLabels_out (n fr to op : Int) (w : World) (hT : TabsA w) (h1 : -9223372036854775808 ≤ n ∧ n ≤ 9223372036854775807) (h2 : -9223372036854775808 ≤ fr ∧ fr ≤ 9223372036854775807) (h3 : -9223372036854775808 ≤ to ∧ to ≤ 9223372036854775807) (h4 : -9223372036854775808 ≤ op ∧ op ≤ 9223372036854775807)
    (h : n < 1 ∨ 60 < n ∨ fr < 0 ∨ n ≤ fr ∨ to < 0 ∨ n ≤ to ∨ op < 34 ∨ 40 < op) :
    Calls Tryd.prog 4 #[.int .i64 n, .int .i64 fr, .int .i64 to, .int .i64 op] w fun e w' => e = .returned (.bool true) ∧ Below w.heap.size w w' := by
  have cA := alive8_any w hT
  clear hT
  go_enter Tryd.func4, Tryd.ntmps4
  go_wp2_with fail
  refine cA.mono ?_; rintro e w1 ⟨rfl, hb1⟩
  have HB1 := Lib.hid hb1
  clear hb1
  go_wp2
  all_goals first
    | (exfalso; omega)
    | (go_ret; exact ⟨rfl, HB1.out⟩)


set_option maxHeartbeats 8000000 in
theorem asmLabels_in (n fr to : Nat) (op : Int) (w : World) (hT : TabsA w) (ho : 34 ≤ op ∧ op ≤ 40) (hto : to < n) (hfr : fr < n) (hn : n ≤ 60) :
    Calls Tryd.prog 4 #[.int .i64 (n : Int), .int .i64 (fr : Int), .int .i64 (to : Int), .int .i64 op] w fun e w' => e = .returned (.bool true) ∧ Below w.heap.size w w' := by
  have cA := alive8_any w hT
  have HT := Lib.hid hT
  have hlen := labUpto_len ho fr to n
  have HA := Lib.hid (lab_asm ho hto hfr hn (by rw [← labUpto_all]; omega))
  have CR := Lib.hid (fun y (hy : TabsA y) => asmRead_short (labText n fr to op) y (by rw [← labUpto_all]; omega) hy)
  have HL := Lib.hid (fun i => labUpto_len ho fr to i)
  have HO := Lib.hid ho
  have HN := Lib.hid hn
  have HF := Lib.hid hfr
  have HTO := Lib.hid hto
  have g1 : decide ((n : Int) < 1) = false := decide_eq_false (by omega)
  have g2 : decide (60 < (n : Int)) = false := decide_eq_false (by omega)
  have g3 : decide ((fr : Int) < 0) = false := decide_eq_false (by omega)
  have g4 : decide ((n : Int) ≤ fr) = false := decide_eq_false (by omega)
  have g5 : decide ((to : Int) < 0) = false := decide_eq_false (by omega)
  have g6 : decide ((n : Int) ≤ to) = false := decide_eq_false (by omega)
  have g7 : decide (op < 34) = false := decide_eq_false (by omega)
  have g8 : decide (40 < op) = false := decide_eq_false (by omega)
  have g9 : decide (n ≤ fr) = false := decide_eq_false (by omega)
  have g10 : decide (n ≤ to) = false := decide_eq_false (by omega)
  clear hT ho hto hfr hn hlen
  go_enter Tryd.func4, Tryd.ntmps4
  go_wp2_with fail
  refine cA.mono ?_; rintro e w1 ⟨rfl, hb1⟩
  have HB1 := Lib.hid hb1
  have HT1 := Lib.hid (HT.out.below hb1)
  clear hb1
  go_wp2_with fail
  clear g1 g2 g3 g4 g5 g6 g7 g8 g9 g10
  go_loopw [10, 11] (fun q x wr => ∃ i : Nat, i ≤ n ∧ q = .string (txt (labUpto fr to op i)) ∧ x = .int .i64 i ∧ Below w1.heap.size w1 wr) (fun _ x _ => n - (intOf x).toNat)
  case atStart => exact ⟨0, Nat.zero_le _, rfl, rfl, Below.refl _ _⟩
  case round =>
    obtain ⟨i, hi, rfl, rfl, hB⟩ := hrel
    have HBr := Lib.hid hB
    have HI := Lib.hid hi
    clear hB
    by_cases hlt : i < n
    · have j1 : decide ((i : Int) < (n : Int)) = true := decide_eq_true (by omega)
      have j2 : decide (i < n) = true := decide_eq_true hlt
      have hi60 : (i : Int) ≤ 60 := by have := HN.out; omega
      have HLT := Lib.hid hlt
      have hsl : (txt (labUpto fr to op i)).size ≤ 2700 := by have := HL.out i; have := HN.out; rw [txt_len]; omega
      obtain ⟨S, hS⟩ : ∃ S, S = txt (labUpto fr to op i) := ⟨_, rfl⟩
      have HS := Lib.hid hS
      have hstep : txt (labUpto fr to op (i + 1)) = S ++ txt (labLine fr to op i) := by rw [hS, labUpto_succ, txt_join]
      have HST := Lib.hid hstep
      rw [← hS] at hsl
      rw [← hS]
      clear hS hi hlt hstep
      by_cases hto : i = to
      · by_cases hfr : i = fr
        · by_cases h40 : op = 40
          · subst h40
            have t1 : ((i : Int) == (to : Int)) = true := by simp; omega
            have t2 : ((i : Int) == (fr : Int)) = true := by simp; omega
            have hj : (S ++ (⟨#[104, 101, 114, 101, 58, 32, 10, 32, 116, 104, 101, 114, 101, 58]⟩ : ByteArray)) ++ (⟨#[32, 106, 32, 104, 101, 114, 101, 10]⟩ : ByteArray) = txt (labUpto fr to 40 (i + 1)) := by
              rw [HST.out]
              have e : labLine fr to 40 i = [104, 101, 114, 101, 58, 32, 10, 32, 116, 104, 101, 114, 101, 58, 32, 106, 32, 104, 101, 114, 101, 10] := by unfold labLine; rw [lab_h, decide_eq_true hto, decide_eq_true hfr, lab_j]; rfl
              rw [e]
              all_goals (rw [HS.out, show (⟨#[104, 101, 114, 101, 58, 32, 10, 32, 116, 104, 101, 114, 101, 58]⟩ : ByteArray) = txt [104, 101, 114, 101, 58, 32, 10, 32, 116, 104, 101, 114, 101, 58] from rfl, show (⟨#[32, 106, 32, 104, 101, 114, 101, 10]⟩ : ByteArray) = txt [32, 106, 32, 104, 101, 114, 101, 10] from rfl]; simp only [txt_join, List.append_assoc, List.cons_append, List.nil_append])
            have u0 : ¬ ((S).size + ((⟨#[104, 101, 114, 101, 58, 32, 10, 32, 116, 104, 101, 114, 101, 58]⟩ : ByteArray)).size > 9223372036854775807) := by
              rw [show (⟨#[104, 101, 114, 101, 58, 32, 10, 32, 116, 104, 101, 114, 101, 58]⟩ : ByteArray).size = 14 from rfl]; omega
            have u1 : ¬ (((S ++ (⟨#[104, 101, 114, 101, 58, 32, 10, 32, 116, 104, 101, 114, 101, 58]⟩ : ByteArray))).size + ((⟨#[32, 106, 32, 104, 101, 114, 101, 10]⟩ : ByteArray)).size > 9223372036854775807) := by
              rw [ByteArray.size_append, show (⟨#[104, 101, 114, 101, 58, 32, 10, 32, 116, 104, 101, 114, 101, 58]⟩ : ByteArray).size = 14 from rfl, show (⟨#[32, 106, 32, 104, 101, 114, 101, 10]⟩ : ByteArray).size = 8 from rfl]; omega
            have HJ := Lib.hid hj
            clear hj
            clear hto hfr 
            go_wp2_with fail
            go_roundw
            case rel => exact ⟨i + 1, by have := HLT.out; omega, by rw [HJ.out], rfl, HBr.out⟩
            case measure => have := HLT.out; simp only [intOf]; omega
          · skip
            have t1 : ((i : Int) == (to : Int)) = true := by simp; omega
            have t2 : ((i : Int) == (fr : Int)) = true := by simp; omega
            have t3 : (op == 40) = false := by simp; omega
            have hj : (((S ++ (⟨#[104, 101, 114, 101, 58, 32, 10, 32, 116, 104, 101, 114, 101, 58]⟩ : ByteArray)) ++ (⟨#[32]⟩ : ByteArray)) ++ txt (nameN op)) ++ (⟨#[32, 114, 49, 44, 32, 114, 50, 44, 32, 116, 104, 101, 114, 101, 32, 35, 32, 120, 10]⟩ : ByteArray) = txt (labUpto fr to op (i + 1)) := by
              rw [HST.out]
              have e : labLine fr to op i = [104, 101, 114, 101, 58, 32, 10, 32, 116, 104, 101, 114, 101, 58, 32] ++ (nameN op ++ [32, 114, 49, 44, 32, 114, 50, 44, 32, 116, 104, 101, 114, 101, 32, 35, 32, 120, 10]) := by unfold labLine; rw [lab_h, decide_eq_true hto, decide_eq_true hfr, lab_b HO.out h40]; simp
              rw [e]
              all_goals (rw [HS.out, show (⟨#[104, 101, 114, 101, 58, 32, 10, 32, 116, 104, 101, 114, 101, 58]⟩ : ByteArray) = txt [104, 101, 114, 101, 58, 32, 10, 32, 116, 104, 101, 114, 101, 58] from rfl, show (⟨#[32, 114, 49, 44, 32, 114, 50, 44, 32, 116, 104, 101, 114, 101, 32, 35, 32, 120, 10]⟩ : ByteArray) = txt [32, 114, 49, 44, 32, 114, 50, 44, 32, 116, 104, 101, 114, 101, 32, 35, 32, 120, 10] from rfl, show (⟨#[32]⟩ : ByteArray) = txt [32] from rfl]; simp only [txt_join, List.append_assoc, List.cons_append, List.nil_append])
            have u0 : ¬ ((S).size + ((⟨#[104, 101, 114, 101, 58, 32, 10, 32, 116, 104, 101, 114, 101, 58]⟩ : ByteArray)).size > 9223372036854775807) := by
              rw [show (⟨#[104, 101, 114, 101, 58, 32, 10, 32, 116, 104, 101, 114, 101, 58]⟩ : ByteArray).size = 14 from rfl]; omega
            have u1 : ¬ (((S ++ (⟨#[104, 101, 114, 101, 58, 32, 10, 32, 116, 104, 101, 114, 101, 58]⟩ : ByteArray))).size + ((⟨#[32]⟩ : ByteArray)).size > 9223372036854775807) := by
              rw [ByteArray.size_append, show (⟨#[104, 101, 114, 101, 58, 32, 10, 32, 116, 104, 101, 114, 101, 58]⟩ : ByteArray).size = 14 from rfl, show (⟨#[32]⟩ : ByteArray).size = 1 from rfl]; omega
            have u2 : ¬ ((((S ++ (⟨#[104, 101, 114, 101, 58, 32, 10, 32, 116, 104, 101, 114, 101, 58]⟩ : ByteArray)) ++ (⟨#[32]⟩ : ByteArray))).size + (txt (nameN op)).size > 9223372036854775807) := by
              have hnl := nameN_len (op := op) (by have := HO.out; omega)
              rw [ByteArray.size_append, ByteArray.size_append, show (⟨#[104, 101, 114, 101, 58, 32, 10, 32, 116, 104, 101, 114, 101, 58]⟩ : ByteArray).size = 14 from rfl, show (⟨#[32]⟩ : ByteArray).size = 1 from rfl, txt_len (nameN op)]; omega
            have u3 : ¬ (((((S ++ (⟨#[104, 101, 114, 101, 58, 32, 10, 32, 116, 104, 101, 114, 101, 58]⟩ : ByteArray)) ++ (⟨#[32]⟩ : ByteArray)) ++ txt (nameN op))).size + ((⟨#[32, 114, 49, 44, 32, 114, 50, 44, 32, 116, 104, 101, 114, 101, 32, 35, 32, 120, 10]⟩ : ByteArray)).size > 9223372036854775807) := by
              have hnl := nameN_len (op := op) (by have := HO.out; omega)
              rw [ByteArray.size_append, ByteArray.size_append, ByteArray.size_append, show (⟨#[104, 101, 114, 101, 58, 32, 10, 32, 116, 104, 101, 114, 101, 58]⟩ : ByteArray).size = 14 from rfl, show (⟨#[32]⟩ : ByteArray).size = 1 from rfl, show (⟨#[32, 114, 49, 44, 32, 114, 50, 44, 32, 116, 104, 101, 114, 101, 32, 35, 32, 120, 10]⟩ : ByteArray).size = 19 from rfl, txt_len (nameN op)]; omega
            have HJ := Lib.hid hj
            clear hj
            obtain ⟨k, hk⟩ : ∃ k : Nat, op - 1 = (k : Int) := ⟨(op - 1).toNat, by have := HO.out; omega⟩
            have hk41 : k < 41 := by have := HO.out; omega
            have hkn : namesZ.getD k [] = nameN op := by rw [← nameN_atL, hk]; rfl
            have hk0 : (0 : Int) ≤ k := by omega
            have hk1 : (k : Int) < 41 := by omega
            have HK := Lib.hid hk41
            have HKN := Lib.hid hkn
            clear hkn hk41
            generalize hXN : txt (nameN op) = XN at *
            have HXN := Lib.hid hXN
            clear hXN hto hfr h40
            go_wp2_with fail
            refine (refNames_any _).mono ?_; rintro e w2 ⟨A2, c2, rfl, hr2, hb2⟩
            have HB2 := Lib.hid (HBr.out.trans (hb2.mono HBr.out.size))
            obtain ⟨g2, o2, rfl, hgl2, _⟩ := hr2.at_ (by omega)
            have hnm := names_row (n := 41) hr2 HK.out
            rw [HKN.out, HXN.out] at hnm
            clear hb2 hr2
            try dsimp only
            go_wp2_with fail
            go_roundw
            case rel => exact ⟨i + 1, by have := HLT.out; omega, by rw [HJ.out], rfl, HB2.out⟩
            case measure => have := HLT.out; simp only [intOf]; omega
        · skip
          have t1 : ((i : Int) == (to : Int)) = true := by simp; omega
          have t2 : ((i : Int) == (fr : Int)) = false := by simp; omega
          have hj : (S ++ (⟨#[104, 101, 114, 101, 58, 32, 10, 32, 116, 104, 101, 114, 101, 58]⟩ : ByteArray)) ++ (⟨#[32, 104, 97, 108, 116, 10, 10]⟩ : ByteArray) = txt (labUpto fr to op (i + 1)) := by
            rw [HST.out]
            have e : labLine fr to op i = [104, 101, 114, 101, 58, 32, 10, 32, 116, 104, 101, 114, 101, 58, 32, 104, 97, 108, 116, 10, 10] := by unfold labLine; rw [lab_h, decide_eq_true hto, decide_eq_false hfr, lab_n]; rfl
            rw [e]
            all_goals (rw [HS.out, show (⟨#[104, 101, 114, 101, 58, 32, 10, 32, 116, 104, 101, 114, 101, 58]⟩ : ByteArray) = txt [104, 101, 114, 101, 58, 32, 10, 32, 116, 104, 101, 114, 101, 58] from rfl, show (⟨#[32, 104, 97, 108, 116, 10, 10]⟩ : ByteArray) = txt [32, 104, 97, 108, 116, 10, 10] from rfl]; simp only [txt_join, List.append_assoc, List.cons_append, List.nil_append])
          have u0 : ¬ ((S).size + ((⟨#[104, 101, 114, 101, 58, 32, 10, 32, 116, 104, 101, 114, 101, 58]⟩ : ByteArray)).size > 9223372036854775807) := by
            rw [show (⟨#[104, 101, 114, 101, 58, 32, 10, 32, 116, 104, 101, 114, 101, 58]⟩ : ByteArray).size = 14 from rfl]; omega
          have u1 : ¬ (((S ++ (⟨#[104, 101, 114, 101, 58, 32, 10, 32, 116, 104, 101, 114, 101, 58]⟩ : ByteArray))).size + ((⟨#[32, 104, 97, 108, 116, 10, 10]⟩ : ByteArray)).size > 9223372036854775807) := by
            rw [ByteArray.size_append, show (⟨#[104, 101, 114, 101, 58, 32, 10, 32, 116, 104, 101, 114, 101, 58]⟩ : ByteArray).size = 14 from rfl, show (⟨#[32, 104, 97, 108, 116, 10, 10]⟩ : ByteArray).size = 7 from rfl]; omega
          have HJ := Lib.hid hj
          clear hj
          clear hto hfr 
          go_wp2_with fail
          go_roundw
          case rel => exact ⟨i + 1, by have := HLT.out; omega, by rw [HJ.out], rfl, HBr.out⟩
          case measure => have := HLT.out; simp only [intOf]; omega
      · by_cases hfr : i = fr
        · by_cases h40 : op = 40
          · subst h40
            have t1 : ((i : Int) == (to : Int)) = false := by simp; omega
            have t2 : ((i : Int) == (fr : Int)) = true := by simp; omega
            have hj : S ++ (⟨#[32, 106, 32, 104, 101, 114, 101, 10]⟩ : ByteArray) = txt (labUpto fr to 40 (i + 1)) := by
              rw [HST.out]
              have e : labLine fr to 40 i = [32, 106, 32, 104, 101, 114, 101, 10] := by unfold labLine; rw [lab_h, decide_eq_false hto, decide_eq_true hfr, lab_j]; rfl
              rw [e]
              all_goals (rw [HS.out, show (⟨#[32, 106, 32, 104, 101, 114, 101, 10]⟩ : ByteArray) = txt [32, 106, 32, 104, 101, 114, 101, 10] from rfl]; simp only [txt_join, List.append_assoc, List.cons_append, List.nil_append])
            have u0 : ¬ ((S).size + ((⟨#[32, 106, 32, 104, 101, 114, 101, 10]⟩ : ByteArray)).size > 9223372036854775807) := by
              rw [show (⟨#[32, 106, 32, 104, 101, 114, 101, 10]⟩ : ByteArray).size = 8 from rfl]; omega
            have HJ := Lib.hid hj
            clear hj
            clear hto hfr 
            go_wp2_with fail
            go_roundw
            case rel => exact ⟨i + 1, by have := HLT.out; omega, by rw [HJ.out], rfl, HBr.out⟩
            case measure => have := HLT.out; simp only [intOf]; omega
          · skip
            have t1 : ((i : Int) == (to : Int)) = false := by simp; omega
            have t2 : ((i : Int) == (fr : Int)) = true := by simp; omega
            have t3 : (op == 40) = false := by simp; omega
            have hj : ((S ++ (⟨#[32]⟩ : ByteArray)) ++ txt (nameN op)) ++ (⟨#[32, 114, 49, 44, 32, 114, 50, 44, 32, 116, 104, 101, 114, 101, 32, 35, 32, 120, 10]⟩ : ByteArray) = txt (labUpto fr to op (i + 1)) := by
              rw [HST.out]
              have e : labLine fr to op i = [32] ++ (nameN op ++ [32, 114, 49, 44, 32, 114, 50, 44, 32, 116, 104, 101, 114, 101, 32, 35, 32, 120, 10]) := by unfold labLine; rw [lab_h, decide_eq_false hto, decide_eq_true hfr, lab_b HO.out h40]; simp
              rw [e]
              all_goals (rw [HS.out, show (⟨#[32, 114, 49, 44, 32, 114, 50, 44, 32, 116, 104, 101, 114, 101, 32, 35, 32, 120, 10]⟩ : ByteArray) = txt [32, 114, 49, 44, 32, 114, 50, 44, 32, 116, 104, 101, 114, 101, 32, 35, 32, 120, 10] from rfl, show (⟨#[32]⟩ : ByteArray) = txt [32] from rfl]; simp only [txt_join, List.append_assoc, List.cons_append, List.nil_append])
            have u0 : ¬ ((S).size + ((⟨#[32]⟩ : ByteArray)).size > 9223372036854775807) := by
              rw [show (⟨#[32]⟩ : ByteArray).size = 1 from rfl]; omega
            have u1 : ¬ (((S ++ (⟨#[32]⟩ : ByteArray))).size + (txt (nameN op)).size > 9223372036854775807) := by
              have hnl := nameN_len (op := op) (by have := HO.out; omega)
              rw [ByteArray.size_append, show (⟨#[32]⟩ : ByteArray).size = 1 from rfl, txt_len (nameN op)]; omega
            have u2 : ¬ ((((S ++ (⟨#[32]⟩ : ByteArray)) ++ txt (nameN op))).size + ((⟨#[32, 114, 49, 44, 32, 114, 50, 44, 32, 116, 104, 101, 114, 101, 32, 35, 32, 120, 10]⟩ : ByteArray)).size > 9223372036854775807) := by
              have hnl := nameN_len (op := op) (by have := HO.out; omega)
              rw [ByteArray.size_append, ByteArray.size_append, show (⟨#[32]⟩ : ByteArray).size = 1 from rfl, show (⟨#[32, 114, 49, 44, 32, 114, 50, 44, 32, 116, 104, 101, 114, 101, 32, 35, 32, 120, 10]⟩ : ByteArray).size = 19 from rfl, txt_len (nameN op)]; omega
            have HJ := Lib.hid hj
            clear hj
            obtain ⟨k, hk⟩ : ∃ k : Nat, op - 1 = (k : Int) := ⟨(op - 1).toNat, by have := HO.out; omega⟩
            have hk41 : k < 41 := by have := HO.out; omega
            have hkn : namesZ.getD k [] = nameN op := by rw [← nameN_atL, hk]; rfl
            have hk0 : (0 : Int) ≤ k := by omega
            have hk1 : (k : Int) < 41 := by omega
            have HK := Lib.hid hk41
            have HKN := Lib.hid hkn
            clear hkn hk41
            generalize hXN : txt (nameN op) = XN at *
            have HXN := Lib.hid hXN
            clear hXN hto hfr h40
            go_wp2_with fail
            refine (refNames_any _).mono ?_; rintro e w2 ⟨A2, c2, rfl, hr2, hb2⟩
            have HB2 := Lib.hid (HBr.out.trans (hb2.mono HBr.out.size))
            obtain ⟨g2, o2, rfl, hgl2, _⟩ := hr2.at_ (by omega)
            have hnm := names_row (n := 41) hr2 HK.out
            rw [HKN.out, HXN.out] at hnm
            clear hb2 hr2
            try dsimp only
            go_wp2_with fail
            go_roundw
            case rel => exact ⟨i + 1, by have := HLT.out; omega, by rw [HJ.out], rfl, HB2.out⟩
            case measure => have := HLT.out; simp only [intOf]; omega
        · skip
          have t1 : ((i : Int) == (to : Int)) = false := by simp; omega
          have t2 : ((i : Int) == (fr : Int)) = false := by simp; omega
          have hj : S ++ (⟨#[32, 104, 97, 108, 116, 10, 10]⟩ : ByteArray) = txt (labUpto fr to op (i + 1)) := by
            rw [HST.out]
            have e : labLine fr to op i = [32, 104, 97, 108, 116, 10, 10] := by unfold labLine; rw [lab_h, decide_eq_false hto, decide_eq_false hfr, lab_n]; rfl
            rw [e]
            all_goals (rw [HS.out, show (⟨#[32, 104, 97, 108, 116, 10, 10]⟩ : ByteArray) = txt [32, 104, 97, 108, 116, 10, 10] from rfl]; simp only [txt_join, List.append_assoc, List.cons_append, List.nil_append])
          have u0 : ¬ ((S).size + ((⟨#[32, 104, 97, 108, 116, 10, 10]⟩ : ByteArray)).size > 9223372036854775807) := by
            rw [show (⟨#[32, 104, 97, 108, 116, 10, 10]⟩ : ByteArray).size = 7 from rfl]; omega
          have HJ := Lib.hid hj
          clear hj
          clear hto hfr 
          go_wp2_with fail
          go_roundw
          case rel => exact ⟨i + 1, by have := HLT.out; omega, by rw [HJ.out], rfl, HBr.out⟩
          case measure => have := HLT.out; simp only [intOf]; omega
    · have hin : i = n := by omega
      subst hin
      have j1 : decide ((i : Int) < (i : Int)) = false := decide_eq_false (by omega)
      have j2 : decide (i < i) = false := decide_eq_false (by omega)
      rw [labUpto_all]
      have HTr := Lib.hid (HT1.out.below HBr.out)
      clear hlt hi
      go_wp2_with fail
      refine (CR.out _ HTr.out).mono ?_
      rintro e w3 ⟨ho3, hb3⟩
      rw [HA.out] at ho3
      obtain ⟨vc, vd, rfl, hc, hd⟩ := ho3
      have hcl : (labProg i fr to op).code.length = i := by simp [labProg]
      rw [hcl] at hc
      have HB3 := Lib.hid ((HB1.out.trans (HBr.out.mono HB1.out.size)).trans (hb3.mono (Nat.le_trans HB1.out.size HBr.out.size)))
      obtain ⟨Ac, cc, rfl⟩ := (Row.of_own hc).form
      obtain ⟨Ad, cd, rfl⟩ := (Row.of_own hd).form
      obtain ⟨g3, o3, rfl, hgl3, _⟩ := (Row.of_own hc).at_ (by have := HF.out; omega)
      obtain ⟨x0, x1, x2, x3, x4⟩ := Row.ins (Row.of_own hc) (labProg_at HF.out)
      have hco : labCode fr to op fr = labIns op ((to : Int) - fr) := by unfold labCode; rw [if_pos rfl]
      rw [hco] at x0 x1 x2 x3 x4
      rw [lab_op] at x0
      rw [lab_imm] at x4
      have hfi : (fr : Int) < (i : Int) := by have := HF.out; omega
      have hf0 : (0 : Int) ≤ fr := by omega
      have hd60 : -100 ≤ (to : Int) - fr ∧ (to : Int) - fr ≤ 100 := by have := HF.out; have := HTO.out; have := HN.out; omega
      obtain ⟨hd1, hd2⟩ := hd60
      have hlt3 : (labProg i fr to op).size = 0 := rfl
      rw [hlt3]
      clear hc hd hb3 hco hcl hlt3
      have HE := Lib.hid (fun (k : Ins) y => eql_ins k k y)
      by_cases h40 : op = 40
      · subst h40
        have e1 : (labIns 40 ((to : Int) - fr)).d = 0 := rfl
        have e2 : (labIns 40 ((to : Int) - fr)).a = 0 := rfl
        have e3 : (labIns 40 ((to : Int) - fr)).b = 0 := rfl
        rw [e1] at x1
        rw [e2] at x2
        rw [e3] at x3
        have ie := HE.out ⟨40, 0, 0, 0, (to : Int) - fr⟩
        simp only [decide_true] at ie
        clear e1 e2 e3
        go_wp2_with (go_at_call 16; refine (num8_any _ _).mono ?_; rintro e w9 ⟨rfl, rfl⟩)
        go_quiet (fail)
        go_wp2_with fail
        go_ret
        have hbb := (HB3.out.alloc HB3.out.size (.cells #[.slice (some ⟨g3, o3, none⟩) i cc, .int .i64 0, .slice Ad (labProg i fr to 40).data.length cd] 26))
        refine ⟨by first | rfl | simp, ?_⟩
        first
          | exact hbb.alloc hbb.size _
          | exact (hbb.alloc hbb.size _).drew
          | exact Below.drewN_ (hbb.alloc hbb.size _) _
      · have hl : labIns op ((to : Int) - fr) = ⟨op, 0, 1, 2, (to : Int) - fr⟩ := by unfold labIns; rw [if_neg h40]
        have h41 : (op == 40) = false := by simp; omega
        rw [hl] at x1 x2 x3
        have ie := HE.out ⟨op, 0, 1, 2, (to : Int) - fr⟩
        simp only [decide_true] at ie
        clear hl
        go_wp2_with (go_at_call 16; refine (num8_any _ _).mono ?_; rintro e w9 ⟨rfl, rfl⟩)
        go_quiet (fail)
        go_wp2_with fail
        go_ret
        have hbb := (HB3.out.alloc HB3.out.size (.cells #[.slice (some ⟨g3, o3, none⟩) i cc, .int .i64 0, .slice Ad (labProg i fr to op).data.length cd] 26))
        refine ⟨by first | rfl | simp, ?_⟩
        first
          | exact hbb.alloc hbb.size _
          | exact (hbb.alloc hbb.size _).drew
          | exact Below.drewN_ (hbb.alloc hbb.size _) _
theorem asmLabels_walk (a0 a1 a2 a3 : Int) (w : World) (hT : TabsA w) (w0 : -9223372036854775808 ≤ a0 ∧ a0 ≤ 9223372036854775807) (w1 : -9223372036854775808 ≤ a1 ∧ a1 ≤ 9223372036854775807) (w2 : -9223372036854775808 ≤ a2 ∧ a2 ≤ 9223372036854775807) (w3 : -9223372036854775808 ≤ a3 ∧ a3 ≤ 9223372036854775807) :
    Calls Tryd.prog 4 #[.int .i64 a0, .int .i64 a1, .int .i64 a2, .int .i64 a3] w fun e w' => e = .returned (.bool true) ∧ Below w.heap.size w w' := by
  by_cases h : a0 < 1 ∨ 60 < a0 ∨ a1 < 0 ∨ a0 ≤ a1 ∨ a2 < 0 ∨ a0 ≤ a2 ∨ a3 < 34 ∨ 40 < a3
  · exact asmLabels_out a0 a1 a2 a3 w hT w0 w1 w2 w3 h
  · obtain ⟨n, rfl⟩ : ∃ k : Nat, a0 = k := ⟨a0.toNat, by omega⟩
    obtain ⟨fr, rfl⟩ : ∃ k : Nat, a1 = k := ⟨a1.toNat, by omega⟩
    obtain ⟨to, rfl⟩ : ∃ k : Nat, a2 = k := ⟨a2.toNat, by omega⟩
    exact asmLabels_in n fr to a3 w hT (by omega) (by omega) (by omega) (by omega)
end Go.Proofs.YtfdegdbknponkaaDoor.Words

/- The walk of AsmBytes: bytes stand one behind the other, in however many lines. -/
import Derived.Test.YtfdegdbknponkaaDoorSAsmBytMath
import Derived.Test.YtfdegdbknponkaaDoorG08
import Derived.Test.YtfdegdbknponkaaDoorG09
import Derived.Test.YtfdegdbknponkaaDoorG02
namespace Go.Proofs.YtfdegdbknponkaaDoor.Words
set_option maxRecDepth 100000
open Go.RowKit Go.Shelf Go.Lib
set_option linter.unusedVariables false
set_option linter.unusedSimpArgs false

theorem and1_i64 (n : Int) : bits .and .i64 n 1 = n % 2 := by
  have h : (BitVec.ofInt 64 1).toNat = 2 ^ 1 - 1 := by decide
  have key : (BitVec.ofInt 64 n &&& BitVec.ofInt 64 1).toNat = (n % ((2 ^ 64 : Nat) : Int)).toNat % 2 ^ 1 := by
    rw [BitVec.toNat_and, BitVec.toNat_ofInt, h, Nat.and_two_pow_sub_one_eq_mod]
  show IntKind.i64.wrap ((BitVec.ofInt 64 n &&& BitVec.ofInt 64 1).toNat : Nat) = n % 2
  rw [key, IntKind.wrap_i64]
  omega
def bytL (z zp : List Int) (k : Nat) : Int × Bool := (z.getD k 0, decide (k = 0 ∨ zp.getD k 0 % 2 = 0))
def bytLine (z zp : List Int) (k : Nat) : List UInt8 := pcText (bytPcs (bytL z zp k))
def bytUpto (h : List UInt8) (z zp : List Int) (i : Nat) : List UInt8 := h ++ (List.range' 0 i).flatMap (bytLine z zp)
theorem bytUpto_zero (h : List UInt8) (z zp : List Int) : bytUpto h z zp 0 = h := by simp [bytUpto]
theorem bytUpto_succ (h : List UInt8) (z zp : List Int) (i : Nat) : bytUpto h z zp (i + 1) = bytUpto h z zp i ++ bytLine z zp i := by
  unfold bytUpto
  rw [List.range'_concat, List.flatMap_append, List.append_assoc]
  simp
theorem bytLine_new {z zp : List Int} {k : Nat} (h : k = 0 ∨ zp.getD k 0 % 2 = 0) : bytLine z zp k = [10, 98, 121, 116, 101, 32] ++ decN (z.getD k 0) := by
  unfold bytLine bytL
  rw [bytPcs_yes (by simpa using h)]
  simp [pcText, Pc.text, byteN]
theorem bytLine_old {z zp : List Int} {k : Nat} (h : ¬ (k = 0 ∨ zp.getD k 0 % 2 = 0)) : bytLine z zp k = [44, 32] ++ decN (z.getD k 0) := by
  unfold bytLine bytL
  rw [bytPcs_no (by simpa using h)]
  simp [pcText, Pc.text]
theorem bytLine_len {z zp : List Int} (hz : ∀ x ∈ z, 0 ≤ x ∧ x ≤ 255) (k : Nat) : (bytLine z zp k).length ≤ 18 := by
  have hk : 0 ≤ z.getD k 0 ∧ z.getD k 0 ≤ 255 := by
    rw [List.getD_eq_getElem?_getD]
    cases h : z[k]? with
    | none => simp
    | some x => exact hz x (List.mem_of_getElem? h)
  have := decN_len (n := z.getD k 0) (by omega)
  by_cases h : k = 0 ∨ zp.getD k 0 % 2 = 0
  · rw [bytLine_new h, List.length_append]; simp only [List.length_cons, List.length_nil]; omega
  · rw [bytLine_old h, List.length_append]; simp only [List.length_cons, List.length_nil]; omega
theorem bytUpto_len {h : List UInt8} {z zp : List Int} (hz : ∀ x ∈ z, 0 ≤ x ∧ x ≤ 255) (hh : h.length ≤ 60) : ∀ i, (bytUpto h z zp i).length ≤ 60 + 18 * i
  | 0 => by rw [bytUpto_zero]; omega
  | i + 1 => by
    have := bytUpto_len (zp := zp) hz hh i
    have := bytLine_len (zp := zp) hz i
    rw [bytUpto_succ, List.length_append]; omega
theorem range_map_getD (z : List Int) : (List.range' 0 z.length).map (fun k => z.getD k 0) = z := by
  apply List.ext_getElem?
  intro j
  rw [List.getElem?_map]
  by_cases hj : j < z.length
  · rw [List.getElem?_range' hj, List.getElem?_eq_getElem hj, Option.map_some, List.getD_eq_getElem?_getD, List.getElem?_eq_getElem (by omega)]
    simp
  · rw [List.getElem?_eq_none (by simpa using hj), List.getElem?_eq_none (by omega)]
    rfl
/-- The whole text, and its program. -/
theorem byt_whole {z zp : List Int} {N : Int} (ahead : Bool) (hN : 60 ≤ N ∧ N ≤ 65536) (hz : ∀ x ∈ z, 0 ≤ x ∧ x ≤ 255) (h1 : 1 ≤ z.length) (h60 : z.length ≤ 60) (hlen : (bytUpto (pcText (bytHead ahead N)) z zp z.length ++ pcText (bytTail ahead N)).length ≤ 20000) :
    asmZ (bytUpto (pcText (bytHead ahead N)) z zp z.length ++ pcText (bytTail ahead N)) = .ok (bytProg N z) := by
  obtain ⟨m, hm⟩ : ∃ m, z.length = m + 1 := ⟨z.length - 1, by omega⟩
  have hin : ∀ k, 0 ≤ z.getD k 0 ∧ z.getD k 0 ≤ 255 := by
    intro k
    rw [List.getD_eq_getElem?_getD]
    cases h : z[k]? with
    | none => simp
    | some x => exact hz x (List.mem_of_getElem? h)
  have hb0 : bytL z zp 0 = (z.getD 0 0, true) := by simp [bytL]
  have e : bytUpto (pcText (bytHead ahead N)) z zp z.length ++ pcText (bytTail ahead N) = pcText (bytAll ahead N (z.getD 0 0) ((List.range' 1 m).map (bytL z zp))) := by
    unfold bytAll bytUpto
    rw [hm, List.range'_succ, List.flatMap_cons, pcText_append, pcText_append, List.flatMap_cons, pcText_append, List.append_assoc]
    have this : ∀ l : List Nat, l.flatMap (bytLine z zp) = pcText ((l.map (bytL z zp)).flatMap bytPcs) := by
      intro l
      induction l with
      | nil => rfl
      | cons x l ih => rw [List.flatMap_cons, List.map_cons, List.flatMap_cons, pcText_append, ih]; rfl
    rw [this]
    unfold bytLine
    rw [hb0]
  rw [e] at hlen ⊢
  rw [byt_asm hN (hin 0) (fun x hx => by obtain ⟨k, _, rfl⟩ := List.mem_map.1 hx; exact hin k) (by simp; omega) hlen]
  congr 2
  have := range_map_getD z
  rw [hm, List.range'_succ, List.map_cons] at this
  conv => rhs; rw [← this]
  congr 1
  rw [List.map_map]
  rfl
theorem byt_head_true (N : Int) : pcText (bytHead true N) = [115, 105, 122, 101, 32, 49, 10, 115, 105, 122, 101, 32] ++ (decN N ++ [10]) := by
  have e : pcText (sizePcs 1 ++ endPcs 0) = [115, 105, 122, 101, 32, 49, 10] := by decide +kernel
  unfold bytHead
  rw [pcText_append, e, if_pos rfl]
  simp [pcText, Pc.text, sizePcs, sizeN, endPcs]
theorem byt_head_false (N : Int) : pcText (bytHead false N) = [115, 105, 122, 101, 32, 49, 10] := by
  have e : pcText (sizePcs 1 ++ endPcs 0) = [115, 105, 122, 101, 32, 49, 10] := by decide +kernel
  unfold bytHead
  rw [pcText_append, e]; rfl
theorem byt_tail_true (N : Int) : pcText (bytTail true N) = [10, 104, 97, 108, 116] := by
  show pcText (.line :: (insPcs haltB [] [] ++ [])) = _
  decide +kernel
theorem byt_tail_false (N : Int) : pcText (bytTail false N) = [10, 104, 97, 108, 116, 10, 115, 105, 122, 101, 32] ++ decN N := by
  have e : pcText (insPcs haltB [] []) = [104, 97, 108, 116] := by decide +kernel
  have e2 : bytTail false N = .line :: (insPcs haltB [] [] ++ .line :: sizePcs N) := rfl
  rw [e2, pcText_cons, pcText_append, e]
  simp [pcText, Pc.text, sizePcs, sizeN]

set_option maxHeartbeats 4000000 in
theorem asmBytes_out (A0 A1 : Option Addr) (c0 c1 n m : Nat) (N : Int) (g : Bool) (w : World) (hT : TabsA w) (h1 : n ≤ 9223372036854775807) (h2 : m ≤ 9223372036854775807) (h3 : -9223372036854775808 ≤ N ∧ N ≤ 9223372036854775807)
    (h : n < 1 ∨ 60 < n ∨ m < n ∨ N < 60 ∨ 65536 < N) :
    Calls Tryd.prog 6 #[.slice A0 n c0, .slice A1 m c1, .int .i64 N, .bool g] w fun e w' => e = .returned (.bool true) ∧ Below w.heap.size w w' := by
  have cA := alive8_any w hT
  clear hT
  go_enter Tryd.func6, Tryd.ntmps6
  go_wp2_with fail
  refine cA.mono ?_; rintro e w1 ⟨rfl, hb1⟩
  have HB1 := Lib.hid hb1
  clear hb1
  go_wp2
  all_goals first
    | (exfalso; omega)
    | (go_ret; exact ⟨rfl, HB1.out⟩)


set_option maxHeartbeats 8000000 in
theorem asmBytes_in_true (A0 A1 : Option Addr) (c0 c1 m : Nat) (z zp : List Int) (N : Int) (w : World) (hT : TabsA w) (r0 : Row w w.heap.size 1 (.slice A0 z.length c0) z.length (z.map (Value.int .u8))) (hz : ∀ x ∈ z, 0 ≤ x ∧ x ≤ 255)
    (r1 : Row w w.heap.size 1 (.slice A1 m c1) m (zp.map (Value.int .i64))) (h1 : 1 ≤ z.length) (h60 : z.length ≤ 60) (hm : z.length ≤ m) (hN : 60 ≤ N ∧ N ≤ 65536) :
    Calls Tryd.prog 6 #[.slice A0 z.length c0, .slice A1 m c1, .int .i64 N, .bool true] w fun e w' => e = .returned (.bool true) ∧ Below w.heap.size w w' := by
  have cA := alive8_any w hT
  have HT := Lib.hid hT
  obtain ⟨g0, o0, rfl, hg0, _⟩ := r0.at_ (by omega)
  obtain ⟨g1, o1, rfl, hg1, _⟩ := r1.at_ (by omega)
  have hdn := decN_len (n := N) (by omega)
  have hhl : (pcText (bytHead true N)).length ≤ 60 := by rw [byt_head_true]; simp ; omega
  have htl : (pcText (bytTail true N)).length ≤ 60 := by rw [byt_tail_true]; simp 
  obtain ⟨H0, hH0⟩ : ∃ H0, H0 = pcText (bytHead true N) := ⟨_, rfl⟩
  have hul := bytUpto_len (h := H0) (z := z) (zp := zp) hz (by rw [hH0]; exact hhl) z.length
  have HA := byt_whole (z := z) (zp := zp) true hN hz h1 h60 (by rw [← hH0, List.length_append]; omega)
  rw [← hH0] at HA
  obtain ⟨ALL, hALL⟩ : ∃ ALL, ALL = bytUpto H0 z zp z.length ++ pcText (bytTail true N) := ⟨_, rfl⟩
  rw [← hALL] at HA
  have HAA := Lib.hid HA
  have CR := Lib.hid (fun y (hy : TabsA y) => asmRead_short ALL y (by rw [hALL, List.length_append]; omega) hy)
  have HUL := Lib.hid (fun i => bytUpto_len (h := H0) (z := z) (zp := zp) hz (by rw [hH0]; exact hhl) i)
  have hin : ∀ k, 0 ≤ z.getD k 0 ∧ z.getD k 0 ≤ 255 := by
    intro k
    rw [List.getD_eq_getElem?_getD]
    cases h : z[k]? with
    | none => simp
    | some x => exact hz x (List.mem_of_getElem? h)
  have HIN := Lib.hid hin
  have HALL := Lib.hid hALL
  have cD := Lib.hid (fun (k : Int) (y : World) (h : -17179869184 ≤ k ∧ k ≤ 17179869184) => dec_any k y h)
  have HN := Lib.hid hN
  have HM := Lib.hid hm
  have H60 := Lib.hid h60
  have H1 := Lib.hid h1
  have R0 := Lib.hid r0
  have R1 := Lib.hid r1
  obtain ⟨n, hn⟩ : ∃ n, n = z.length := ⟨_, rfl⟩
  have HNZ := Lib.hid hn
  have q1 : decide ((n : Int) < 1) = false := decide_eq_false (by omega)
  have q2 : decide (60 < (n : Int)) = false := decide_eq_false (by omega)
  have q3 : decide ((m : Int) < (n : Int)) = false := decide_eq_false (by omega)
  have q4 : decide (N < 60) = false := decide_eq_false (by omega)
  have q5 : decide (65536 < N) = false := decide_eq_false (by omega)
  have q6 : decide (m < n) = false := decide_eq_false (by omega)
  have q7 : decide (n < 1) = false := decide_eq_false (by omega)
  have q8 : decide (60 < n) = false := decide_eq_false (by omega)
  have hj0 : (((⟨#[115, 105, 122, 101, 32, 49, 10]⟩ : ByteArray) ++ (⟨#[115, 105, 122, 101, 32]⟩ : ByteArray)) ++ txt (decN N)) ++ (⟨#[10]⟩ : ByteArray) = txt H0 := by
    rw [hH0, byt_head_true]
    rw [show (⟨#[115, 105, 122, 101, 32, 49, 10]⟩ : ByteArray) = txt [115, 105, 122, 101, 32, 49, 10] from rfl, show (⟨#[115, 105, 122, 101, 32]⟩ : ByteArray) = txt [115, 105, 122, 101, 32] from rfl, show (⟨#[10]⟩ : ByteArray) = txt [10] from rfl, txt_join, txt_join, txt_join]
    simp
  have hDs := txt_len (decN N)
  have cDH := Lib.hid (fun y => cD.out N y (by omega))
  obtain ⟨DN, hDN⟩ : ∃ DN, DN = txt (decN N) := ⟨_, rfl⟩
  rw [← hDN] at hj0 hDs cDH
  have HJ0 := Lib.hid hj0
  have sz1 : ¬ (((⟨#[115, 105, 122, 101, 32, 49, 10]⟩ : ByteArray)).size + ((⟨#[115, 105, 122, 101, 32]⟩ : ByteArray)).size > 9223372036854775807) := by rw [show (⟨#[115, 105, 122, 101, 32, 49, 10]⟩ : ByteArray).size = 7 from rfl, show (⟨#[115, 105, 122, 101, 32]⟩ : ByteArray).size = 5 from rfl]; omega
  have sz2 : ¬ (((⟨#[115, 105, 122, 101, 32, 49, 10]⟩ : ByteArray) ++ (⟨#[115, 105, 122, 101, 32]⟩ : ByteArray)).size + (DN).size > 9223372036854775807) := by rw [ByteArray.size_append, show (⟨#[115, 105, 122, 101, 32, 49, 10]⟩ : ByteArray).size = 7 from rfl, show (⟨#[115, 105, 122, 101, 32]⟩ : ByteArray).size = 5 from rfl]; omega
  have sz3 : ¬ ((((⟨#[115, 105, 122, 101, 32, 49, 10]⟩ : ByteArray) ++ (⟨#[115, 105, 122, 101, 32]⟩ : ByteArray)) ++ DN).size + ((⟨#[10]⟩ : ByteArray)).size > 9223372036854775807) := by rw [ByteArray.size_append, ByteArray.size_append, show (⟨#[115, 105, 122, 101, 32, 49, 10]⟩ : ByteArray).size = 7 from rfl, show (⟨#[115, 105, 122, 101, 32]⟩ : ByteArray).size = 5 from rfl, show (⟨#[10]⟩ : ByteArray).size = 1 from rfl]; omega
  clear hj0 hDN
  rw [← hn] at r0 ⊢
  clear r0 r1 hT hdn hhl htl hH0 hul HA hALL hin h1 h60 hm hN hz hn
  go_enter Tryd.func6, Tryd.ntmps6
  go_wp2_with fail
  refine cA.mono ?_; rintro e w1 ⟨rfl, hb1⟩
  have HB1 := Lib.hid hb1
  have HT1 := Lib.hid (HT.out.below hb1)
  have r0 := R0.out.below hb1
  have r1 := R1.out.below hb1
  have P0 := Lib.hid (fun k (h : k < z.length) => r0.num k h)
  have P1 := Lib.hid (fun k (h : k < m) => r1.num k h)
  have RW0 := Lib.hid r0
  clear hb1 r0 r1
  go_wp2_with (go_at_call 20; refine (cDH.out _).mono ?_; rintro e w2 ⟨rfl, rfl⟩)
  clear q1 q2 q3 q4 q5 q6 q7 q8 sz1 sz2 sz3 hDs
  go_loopw [10, 11] (fun q x wr => ∃ i : Nat, i ≤ n ∧ q = .string (txt (bytUpto H0 z zp i)) ∧ x = .int .i64 i ∧ wr = w1) (fun _ x _ => n - (intOf x).toNat)
  case atStart => exact ⟨0, Nat.zero_le _, by rw [bytUpto_zero, ← HJ0.out]; try rfl, rfl, rfl⟩
  case round =>
    obtain ⟨i, hi, rfl, rfl, rfl⟩ := hrel
    by_cases hlt : i < n
    · have j1 : decide ((i : Int) < (n : Int)) = true := decide_eq_true (by omega)
      have j2 : decide (i < n) = true := decide_eq_true hlt
      have hz60 := H60.out
      have hnz := HNZ.out
      have hi60 : (i : Int) ≤ 60 := by omega
      have HLT := Lib.hid hlt
      have hin : (i : Int) < (n : Int) := by omega
      have him : (i : Int) < (m : Int) := by have := HM.out; omega
      have hi0 : (0 : Int) ≤ i := by omega
      have hb := P0.out i (by omega)
      have hpt := P1.out i (by have := HM.out; omega)
      have hbr := HIN.out i
      have hsl : (txt (bytUpto H0 z zp i)).size ≤ 1200 := by have := HUL.out i; rw [txt_len]; omega
      have hdl := decN_len (n := z.getD i 0) (by omega)
      have cDi := Lib.hid (fun y => cD.out (z.getD i 0) y (by omega))
      have hnew := Lib.hid (fun h => bytLine_new (z := z) (zp := zp) (k := i) h)
      have hold := Lib.hid (fun h => bytLine_old (z := z) (zp := zp) (k := i) h)
      obtain ⟨S, hS⟩ : ∃ S, S = txt (bytUpto H0 z zp i) := ⟨_, rfl⟩
      have hstep : txt (bytUpto H0 z zp (i + 1)) = S ++ txt (bytLine z zp i) := by rw [hS, bytUpto_succ, txt_join]
      have HST := Lib.hid hstep
      rw [← hS] at hsl
      rw [← hS]
      obtain ⟨x, hx⟩ : ∃ x, x = z.getD i 0 := ⟨_, rfl⟩
      obtain ⟨y, hy⟩ : ∃ y, y = zp.getD i 0 := ⟨_, rfl⟩
      rw [← hx] at hb hbr hdl cDi hnew hold
      rw [← hy] at hpt hnew hold
      obtain ⟨hbr0, hbr1⟩ := hbr
      have hDsz := txt_len (decN x)
      have HJn : Hid (txt (decN x) = txt (decN x)) := Lib.hid rfl
      obtain ⟨D, hD⟩ : ∃ D, D = txt (decN x) := ⟨_, rfl⟩
      rw [← hD] at cDi hDsz
      have HD := Lib.hid hD
      clear hS hi hlt hstep hx hy hD hnz hz60
      by_cases hi0' : i = 0
      · have hj : (S ++ (⟨#[10, 98, 121, 116, 101, 32]⟩ : ByteArray)) ++ D = txt (bytUpto H0 z zp (i + 1)) := by
          rw [HST.out, hnew.out (.inl hi0'), HD.out, ← txt_join, ← ByteArray.append_assoc]; first | done | rfl
        have HJ := Lib.hid hj
        have t1 : ((i : Int) == 0) = true := by simp; omega
        have sz1 : ¬ ((S).size + ((⟨#[10, 98, 121, 116, 101, 32]⟩ : ByteArray)).size > 9223372036854775807) := by rw [show (⟨#[10, 98, 121, 116, 101, 32]⟩ : ByteArray).size = 6 from rfl]; omega
        have sz2 : ¬ ((S ++ (⟨#[10, 98, 121, 116, 101, 32]⟩ : ByteArray)).size + (D).size > 9223372036854775807) := by rw [ByteArray.size_append, show (⟨#[10, 98, 121, 116, 101, 32]⟩ : ByteArray).size = 6 from rfl]; omega
        clear hj hi0'
        go_wp2_with (go_at_call 20; refine (cDi.out _).mono ?_; rintro e w2 ⟨rfl, rfl⟩)
        go_roundw
        case rel => exact ⟨i + 1, by have := HLT.out; omega, by rw [HJ.out], rfl, by first | rfl | trivial⟩
        case measure => have := HLT.out; simp only [intOf]; omega
      · have t1 : ((i : Int) == 0) = false := by simp; omega
        by_cases hp : y % 2 = 0
        · have hj : (S ++ (⟨#[10, 98, 121, 116, 101, 32]⟩ : ByteArray)) ++ D = txt (bytUpto H0 z zp (i + 1)) := by
            rw [HST.out, hnew.out (.inr hp), HD.out, ← txt_join, ← ByteArray.append_assoc]; first | done | rfl
          have HJ := Lib.hid hj
          have hbit : bits .and .i64 y 1 = 0 := by rw [and1_i64]; exact hp
          have sz1 : ¬ ((S).size + ((⟨#[10, 98, 121, 116, 101, 32]⟩ : ByteArray)).size > 9223372036854775807) := by rw [show (⟨#[10, 98, 121, 116, 101, 32]⟩ : ByteArray).size = 6 from rfl]; omega
          have sz2 : ¬ ((S ++ (⟨#[10, 98, 121, 116, 101, 32]⟩ : ByteArray)).size + (D).size > 9223372036854775807) := by rw [ByteArray.size_append, show (⟨#[10, 98, 121, 116, 101, 32]⟩ : ByteArray).size = 6 from rfl]; omega
          clear hj hp hi0'
          go_wp2_with (go_at_call 20; refine (cDi.out _).mono ?_; rintro e w2 ⟨rfl, rfl⟩)
          go_roundw
          case rel => exact ⟨i + 1, by have := HLT.out; omega, by rw [HJ.out], rfl, by first | rfl | trivial⟩
          case measure => have := HLT.out; simp only [intOf]; omega
        · have hj : (S ++ (⟨#[44, 32]⟩ : ByteArray)) ++ D = txt (bytUpto H0 z zp (i + 1)) := by
            rw [HST.out, hold.out (by rintro (h | h); exact hi0' h; exact hp h), HD.out, ← txt_join, ← ByteArray.append_assoc]; first | done | rfl
          have HJ := Lib.hid hj
          have hbit : bits .and .i64 y 1 = 1 := by rw [and1_i64]; omega
          have sz1 : ¬ ((S).size + ((⟨#[44, 32]⟩ : ByteArray)).size > 9223372036854775807) := by rw [show (⟨#[44, 32]⟩ : ByteArray).size = 2 from rfl]; omega
          have sz2 : ¬ ((S ++ (⟨#[44, 32]⟩ : ByteArray)).size + (D).size > 9223372036854775807) := by rw [ByteArray.size_append, show (⟨#[44, 32]⟩ : ByteArray).size = 2 from rfl]; omega
          clear hj hp hi0'
          go_wp2_with (go_at_call 20; refine (cDi.out _).mono ?_; rintro e w2 ⟨rfl, rfl⟩)
          go_roundw
          case rel => exact ⟨i + 1, by have := HLT.out; omega, by rw [HJ.out], rfl, by first | rfl | trivial⟩
          case measure => have := HLT.out; simp only [intOf]; omega
    · have hin : i = n := by omega
      subst hin
      have j1 : decide ((i : Int) < (i : Int)) = false := decide_eq_false (by omega)
      have j2 : decide (i < i) = false := decide_eq_false (by omega)
      have hsl : (txt (bytUpto H0 z zp i)).size ≤ 1200 := by have := HUL.out i; have := H60.out; have := HNZ.out; rw [txt_len]; omega
      obtain ⟨S, hS⟩ : ∃ S, S = txt (bytUpto H0 z zp i) := ⟨_, rfl⟩
      have hn := HN.out
      have hdl := decN_len (n := N) (by omega)
      have hDsz := txt_len (decN N)
      obtain ⟨D, hD⟩ : ∃ D, D = txt (decN N) := ⟨_, rfl⟩
      have cDN := Lib.hid (fun y => cD.out N y (by omega))
      rw [← hD] at cDN hDsz
      rw [← hS] at hsl
      rw [← hS]
      obtain ⟨TA, hTA⟩ : ∃ TA, TA = txt ALL := ⟨_, rfl⟩
      have hj5 : S ++ (⟨#[10, 104, 97, 108, 116]⟩ : ByteArray) = TA := by
        rw [hTA, HALL.out, ← HNZ.out, ← txt_join, ← hS, byt_tail_true]; try rfl
      have sz1 : ¬ ((S).size + ((⟨#[10, 104, 97, 108, 116]⟩ : ByteArray)).size > 9223372036854775807) := by rw [show (⟨#[10, 104, 97, 108, 116]⟩ : ByteArray).size = 5 from rfl]; omega
      have CRT := Lib.hid (fun y hy => CR.out y hy)
      rw [← hTA] at CRT
      clear hlt hi hS hD hTA hn
      go_wp2_with fail
      refine (CRT.out _ HT1.out).mono ?_
      rintro e w3 ⟨ho3, hb3⟩
      rw [HAA.out] at ho3
      obtain ⟨vc, vd, rfl, hc, hd⟩ := ho3
      change w3.ownsRow _ _ 5 vc 1 _ at hc
      change w3.ownsRow _ _ 1 vd z.length (z.map (Value.int .u8)) at hd
      rw [← HNZ.out] at hd
      have HB3 := Lib.hid (HB1.out.trans (hb3.mono HB1.out.size))
      obtain ⟨Ac, cc, rfl⟩ := (Row.of_own hc).form
      obtain ⟨Ad, cd, rfl⟩ := (Row.of_own hd).form
      have rb := RW0.out.below (hb3.mono HB1.out.size)
      rw [← HNZ.out] at rb
      have hsz : (w3.alloc (.cells #[.slice Ac 1 cc, .int .i64 N, .slice Ad i cd] 26)).heap.size = w3.heap.size + 1 := by simp
      have z0 : (w3.alloc (.cells #[.slice Ac 1 cc, .int .i64 N, .slice Ad i cd] 26)).cell? ⟨w3.heap.size, 0, none⟩ = some (.slice Ac 1 cc) := by go_simp
      have z1 : (w3.alloc (.cells #[.slice Ac 1 cc, .int .i64 N, .slice Ad i cd] 26)).cell? ⟨w3.heap.size, 1, none⟩ = some (.int .i64 N) := by go_simp
      have z2 : (w3.alloc (.cells #[.slice Ac 1 cc, .int .i64 N, .slice Ad i cd] 26)).cell? ⟨w3.heap.size, 2, none⟩ = some (.slice Ad i cd) := by go_simp
      have B4 : Hid (Below w.heap.size w (w3.alloc (.cells #[.slice Ac 1 cc, .int .i64 N, .slice Ad i cd] 26))) := HB3.out.alloc HB3.out.size _
      have cv1 := conv_row (P := Tryd.prog) (w3.alloc (.cells #[.slice Ac 1 cc, .int .i64 N, .slice Ad i cd] 26)) 24 5 Tryd.underlying24 Tryd.underlying5 ((Row.of_own hd).alloc (Nat.le_refl _) _) 9 Tryd.underlying9
      have cv2 := conv_row (P := Tryd.prog) (w3.alloc (.cells #[.slice Ac 1 cc, .int .i64 N, .slice Ad i cd] 26)) 24 5 Tryd.underlying24 Tryd.underlying5 (rb.alloc (Nat.le_trans HB1.out.size (hb3.size)) _) 9 Tryd.underlying9
      generalize hW4 : (w3.alloc (.cells #[.slice Ac 1 cc, .int .i64 N, .slice Ad i cd] 26)) = w4 at *
      have HW4 := Lib.hid hW4
      have hl4 : w3.heap.size < w4.heap.size := by omega
      generalize strOfNums z = SZ at *
      clear hc hd hb3 rb
      have hrw : (w3.alloc (.cells #[.slice Ac 1 cc, .int .i64 (bytProg N z).size, .slice Ad i cd] 26)) = w4 := hW4
      clear hW4
      try dsimp only
      go_wp2_with (go_at_call 16; refine (num8_any _ _).mono ?_; rintro e w9 ⟨rfl, rfl⟩)
      go_ret
      exact ⟨by first | rfl | simp, B4.out⟩


set_option maxHeartbeats 8000000 in
theorem asmBytes_in_false (A0 A1 : Option Addr) (c0 c1 m : Nat) (z zp : List Int) (N : Int) (w : World) (hT : TabsA w) (r0 : Row w w.heap.size 1 (.slice A0 z.length c0) z.length (z.map (Value.int .u8))) (hz : ∀ x ∈ z, 0 ≤ x ∧ x ≤ 255)
    (r1 : Row w w.heap.size 1 (.slice A1 m c1) m (zp.map (Value.int .i64))) (h1 : 1 ≤ z.length) (h60 : z.length ≤ 60) (hm : z.length ≤ m) (hN : 60 ≤ N ∧ N ≤ 65536) :
    Calls Tryd.prog 6 #[.slice A0 z.length c0, .slice A1 m c1, .int .i64 N, .bool false] w fun e w' => e = .returned (.bool true) ∧ Below w.heap.size w w' := by
  have cA := alive8_any w hT
  have HT := Lib.hid hT
  obtain ⟨g0, o0, rfl, hg0, _⟩ := r0.at_ (by omega)
  obtain ⟨g1, o1, rfl, hg1, _⟩ := r1.at_ (by omega)
  have hdn := decN_len (n := N) (by omega)
  have hhl : (pcText (bytHead false N)).length ≤ 60 := by rw [byt_head_false]; simp 
  have htl : (pcText (bytTail false N)).length ≤ 60 := by rw [byt_tail_false]; simp ; omega
  obtain ⟨H0, hH0⟩ : ∃ H0, H0 = pcText (bytHead false N) := ⟨_, rfl⟩
  have hul := bytUpto_len (h := H0) (z := z) (zp := zp) hz (by rw [hH0]; exact hhl) z.length
  have HA := byt_whole (z := z) (zp := zp) false hN hz h1 h60 (by rw [← hH0, List.length_append]; omega)
  rw [← hH0] at HA
  obtain ⟨ALL, hALL⟩ : ∃ ALL, ALL = bytUpto H0 z zp z.length ++ pcText (bytTail false N) := ⟨_, rfl⟩
  rw [← hALL] at HA
  have HAA := Lib.hid HA
  have CR := Lib.hid (fun y (hy : TabsA y) => asmRead_short ALL y (by rw [hALL, List.length_append]; omega) hy)
  have HUL := Lib.hid (fun i => bytUpto_len (h := H0) (z := z) (zp := zp) hz (by rw [hH0]; exact hhl) i)
  have hin : ∀ k, 0 ≤ z.getD k 0 ∧ z.getD k 0 ≤ 255 := by
    intro k
    rw [List.getD_eq_getElem?_getD]
    cases h : z[k]? with
    | none => simp
    | some x => exact hz x (List.mem_of_getElem? h)
  have HIN := Lib.hid hin
  have HALL := Lib.hid hALL
  have cD := Lib.hid (fun (k : Int) (y : World) (h : -17179869184 ≤ k ∧ k ≤ 17179869184) => dec_any k y h)
  have HN := Lib.hid hN
  have HM := Lib.hid hm
  have H60 := Lib.hid h60
  have H1 := Lib.hid h1
  have R0 := Lib.hid r0
  have R1 := Lib.hid r1
  obtain ⟨n, hn⟩ : ∃ n, n = z.length := ⟨_, rfl⟩
  have HNZ := Lib.hid hn
  have q1 : decide ((n : Int) < 1) = false := decide_eq_false (by omega)
  have q2 : decide (60 < (n : Int)) = false := decide_eq_false (by omega)
  have q3 : decide ((m : Int) < (n : Int)) = false := decide_eq_false (by omega)
  have q4 : decide (N < 60) = false := decide_eq_false (by omega)
  have q5 : decide (65536 < N) = false := decide_eq_false (by omega)
  have q6 : decide (m < n) = false := decide_eq_false (by omega)
  have q7 : decide (n < 1) = false := decide_eq_false (by omega)
  have q8 : decide (60 < n) = false := decide_eq_false (by omega)
  have hj0 : (⟨#[115, 105, 122, 101, 32, 49, 10]⟩ : ByteArray) = txt H0 := by
    rw [hH0, byt_head_false]; first | done | rfl
  have HJ0 := Lib.hid hj0
  clear hj0
  rw [← hn] at r0 ⊢
  clear r0 r1 hT hdn hhl htl hH0 hul HA hALL hin h1 h60 hm hN hz hn
  go_enter Tryd.func6, Tryd.ntmps6
  go_wp2_with fail
  refine cA.mono ?_; rintro e w1 ⟨rfl, hb1⟩
  have HB1 := Lib.hid hb1
  have HT1 := Lib.hid (HT.out.below hb1)
  have r0 := R0.out.below hb1
  have r1 := R1.out.below hb1
  have P0 := Lib.hid (fun k (h : k < z.length) => r0.num k h)
  have P1 := Lib.hid (fun k (h : k < m) => r1.num k h)
  have RW0 := Lib.hid r0
  clear hb1 r0 r1
  go_wp2_with fail
  clear q1 q2 q3 q4 q5 q6 q7 q8 
  go_loopw [10, 11] (fun q x wr => ∃ i : Nat, i ≤ n ∧ q = .string (txt (bytUpto H0 z zp i)) ∧ x = .int .i64 i ∧ wr = w1) (fun _ x _ => n - (intOf x).toNat)
  case atStart => exact ⟨0, Nat.zero_le _, by rw [bytUpto_zero, ← HJ0.out]; try rfl, rfl, rfl⟩
  case round =>
    obtain ⟨i, hi, rfl, rfl, rfl⟩ := hrel
    by_cases hlt : i < n
    · have j1 : decide ((i : Int) < (n : Int)) = true := decide_eq_true (by omega)
      have j2 : decide (i < n) = true := decide_eq_true hlt
      have hz60 := H60.out
      have hnz := HNZ.out
      have hi60 : (i : Int) ≤ 60 := by omega
      have HLT := Lib.hid hlt
      have hin : (i : Int) < (n : Int) := by omega
      have him : (i : Int) < (m : Int) := by have := HM.out; omega
      have hi0 : (0 : Int) ≤ i := by omega
      have hb := P0.out i (by omega)
      have hpt := P1.out i (by have := HM.out; omega)
      have hbr := HIN.out i
      have hsl : (txt (bytUpto H0 z zp i)).size ≤ 1200 := by have := HUL.out i; rw [txt_len]; omega
      have hdl := decN_len (n := z.getD i 0) (by omega)
      have cDi := Lib.hid (fun y => cD.out (z.getD i 0) y (by omega))
      have hnew := Lib.hid (fun h => bytLine_new (z := z) (zp := zp) (k := i) h)
      have hold := Lib.hid (fun h => bytLine_old (z := z) (zp := zp) (k := i) h)
      obtain ⟨S, hS⟩ : ∃ S, S = txt (bytUpto H0 z zp i) := ⟨_, rfl⟩
      have hstep : txt (bytUpto H0 z zp (i + 1)) = S ++ txt (bytLine z zp i) := by rw [hS, bytUpto_succ, txt_join]
      have HST := Lib.hid hstep
      rw [← hS] at hsl
      rw [← hS]
      obtain ⟨x, hx⟩ : ∃ x, x = z.getD i 0 := ⟨_, rfl⟩
      obtain ⟨y, hy⟩ : ∃ y, y = zp.getD i 0 := ⟨_, rfl⟩
      rw [← hx] at hb hbr hdl cDi hnew hold
      rw [← hy] at hpt hnew hold
      obtain ⟨hbr0, hbr1⟩ := hbr
      have hDsz := txt_len (decN x)
      have HJn : Hid (txt (decN x) = txt (decN x)) := Lib.hid rfl
      obtain ⟨D, hD⟩ : ∃ D, D = txt (decN x) := ⟨_, rfl⟩
      rw [← hD] at cDi hDsz
      have HD := Lib.hid hD
      clear hS hi hlt hstep hx hy hD hnz hz60
      by_cases hi0' : i = 0
      · have hj : (S ++ (⟨#[10, 98, 121, 116, 101, 32]⟩ : ByteArray)) ++ D = txt (bytUpto H0 z zp (i + 1)) := by
          rw [HST.out, hnew.out (.inl hi0'), HD.out, ← txt_join, ← ByteArray.append_assoc]; first | done | rfl
        have HJ := Lib.hid hj
        have t1 : ((i : Int) == 0) = true := by simp; omega
        have sz1 : ¬ ((S).size + ((⟨#[10, 98, 121, 116, 101, 32]⟩ : ByteArray)).size > 9223372036854775807) := by rw [show (⟨#[10, 98, 121, 116, 101, 32]⟩ : ByteArray).size = 6 from rfl]; omega
        have sz2 : ¬ ((S ++ (⟨#[10, 98, 121, 116, 101, 32]⟩ : ByteArray)).size + (D).size > 9223372036854775807) := by rw [ByteArray.size_append, show (⟨#[10, 98, 121, 116, 101, 32]⟩ : ByteArray).size = 6 from rfl]; omega
        clear hj hi0'
        go_wp2_with (go_at_call 20; refine (cDi.out _).mono ?_; rintro e w2 ⟨rfl, rfl⟩)
        go_roundw
        case rel => exact ⟨i + 1, by have := HLT.out; omega, by rw [HJ.out], rfl, by first | rfl | trivial⟩
        case measure => have := HLT.out; simp only [intOf]; omega
      · have t1 : ((i : Int) == 0) = false := by simp; omega
        by_cases hp : y % 2 = 0
        · have hj : (S ++ (⟨#[10, 98, 121, 116, 101, 32]⟩ : ByteArray)) ++ D = txt (bytUpto H0 z zp (i + 1)) := by
            rw [HST.out, hnew.out (.inr hp), HD.out, ← txt_join, ← ByteArray.append_assoc]; first | done | rfl
          have HJ := Lib.hid hj
          have hbit : bits .and .i64 y 1 = 0 := by rw [and1_i64]; exact hp
          have sz1 : ¬ ((S).size + ((⟨#[10, 98, 121, 116, 101, 32]⟩ : ByteArray)).size > 9223372036854775807) := by rw [show (⟨#[10, 98, 121, 116, 101, 32]⟩ : ByteArray).size = 6 from rfl]; omega
          have sz2 : ¬ ((S ++ (⟨#[10, 98, 121, 116, 101, 32]⟩ : ByteArray)).size + (D).size > 9223372036854775807) := by rw [ByteArray.size_append, show (⟨#[10, 98, 121, 116, 101, 32]⟩ : ByteArray).size = 6 from rfl]; omega
          clear hj hp hi0'
          go_wp2_with (go_at_call 20; refine (cDi.out _).mono ?_; rintro e w2 ⟨rfl, rfl⟩)
          go_roundw
          case rel => exact ⟨i + 1, by have := HLT.out; omega, by rw [HJ.out], rfl, by first | rfl | trivial⟩
          case measure => have := HLT.out; simp only [intOf]; omega
        · have hj : (S ++ (⟨#[44, 32]⟩ : ByteArray)) ++ D = txt (bytUpto H0 z zp (i + 1)) := by
            rw [HST.out, hold.out (by rintro (h | h); exact hi0' h; exact hp h), HD.out, ← txt_join, ← ByteArray.append_assoc]; first | done | rfl
          have HJ := Lib.hid hj
          have hbit : bits .and .i64 y 1 = 1 := by rw [and1_i64]; omega
          have sz1 : ¬ ((S).size + ((⟨#[44, 32]⟩ : ByteArray)).size > 9223372036854775807) := by rw [show (⟨#[44, 32]⟩ : ByteArray).size = 2 from rfl]; omega
          have sz2 : ¬ ((S ++ (⟨#[44, 32]⟩ : ByteArray)).size + (D).size > 9223372036854775807) := by rw [ByteArray.size_append, show (⟨#[44, 32]⟩ : ByteArray).size = 2 from rfl]; omega
          clear hj hp hi0'
          go_wp2_with (go_at_call 20; refine (cDi.out _).mono ?_; rintro e w2 ⟨rfl, rfl⟩)
          go_roundw
          case rel => exact ⟨i + 1, by have := HLT.out; omega, by rw [HJ.out], rfl, by first | rfl | trivial⟩
          case measure => have := HLT.out; simp only [intOf]; omega
    · have hin : i = n := by omega
      subst hin
      have j1 : decide ((i : Int) < (i : Int)) = false := decide_eq_false (by omega)
      have j2 : decide (i < i) = false := decide_eq_false (by omega)
      have hsl : (txt (bytUpto H0 z zp i)).size ≤ 1200 := by have := HUL.out i; have := H60.out; have := HNZ.out; rw [txt_len]; omega
      obtain ⟨S, hS⟩ : ∃ S, S = txt (bytUpto H0 z zp i) := ⟨_, rfl⟩
      have hn := HN.out
      have hdl := decN_len (n := N) (by omega)
      have hDsz := txt_len (decN N)
      obtain ⟨D, hD⟩ : ∃ D, D = txt (decN N) := ⟨_, rfl⟩
      have cDN := Lib.hid (fun y => cD.out N y (by omega))
      rw [← hD] at cDN hDsz
      rw [← hS] at hsl
      rw [← hS]
      obtain ⟨TA, hTA⟩ : ∃ TA, TA = txt ALL := ⟨_, rfl⟩
      have hj5 : ((S ++ (⟨#[10, 104, 97, 108, 116]⟩ : ByteArray)) ++ (⟨#[10, 115, 105, 122, 101, 32]⟩ : ByteArray)) ++ D = TA := by
        have e : ((⟨#[10, 104, 97, 108, 116]⟩ : ByteArray)) ++ ((⟨#[10, 115, 105, 122, 101, 32]⟩ : ByteArray)) = txt [10, 104, 97, 108, 116, 10, 115, 105, 122, 101, 32] := by
          rw [show ((⟨#[10, 104, 97, 108, 116]⟩ : ByteArray)) = txt [10, 104, 97, 108, 116] from rfl, show ((⟨#[10, 115, 105, 122, 101, 32]⟩ : ByteArray)) = txt [10, 115, 105, 122, 101, 32] from rfl, txt_join]; rfl
        rw [hTA, HALL.out, ← HNZ.out, ← txt_join, ← hS, byt_tail_false, ← txt_join, ← hD, ← e]
        simp only [ByteArray.append_assoc]
      have sz1 : ¬ ((S).size + ((⟨#[10, 104, 97, 108, 116]⟩ : ByteArray)).size > 9223372036854775807) := by rw [show (⟨#[10, 104, 97, 108, 116]⟩ : ByteArray).size = 5 from rfl]; omega
      have sz2 : ¬ ((S ++ (⟨#[10, 104, 97, 108, 116]⟩ : ByteArray)).size + ((⟨#[10, 115, 105, 122, 101, 32]⟩ : ByteArray)).size > 9223372036854775807) := by rw [ByteArray.size_append, show (⟨#[10, 104, 97, 108, 116]⟩ : ByteArray).size = 5 from rfl, show (⟨#[10, 115, 105, 122, 101, 32]⟩ : ByteArray).size = 6 from rfl]; omega
      have sz3 : ¬ (((S ++ (⟨#[10, 104, 97, 108, 116]⟩ : ByteArray)) ++ (⟨#[10, 115, 105, 122, 101, 32]⟩ : ByteArray)).size + (D).size > 9223372036854775807) := by rw [ByteArray.size_append, ByteArray.size_append, show (⟨#[10, 104, 97, 108, 116]⟩ : ByteArray).size = 5 from rfl, show (⟨#[10, 115, 105, 122, 101, 32]⟩ : ByteArray).size = 6 from rfl]; omega
      have CRT := Lib.hid (fun y hy => CR.out y hy)
      rw [← hTA] at CRT
      clear hlt hi hS hD hTA hn
      go_wp2_with (go_at_call 20; refine (cDN.out _).mono ?_; rintro e w2 ⟨rfl, rfl⟩)
      refine (CRT.out _ HT1.out).mono ?_
      rintro e w3 ⟨ho3, hb3⟩
      rw [HAA.out] at ho3
      obtain ⟨vc, vd, rfl, hc, hd⟩ := ho3
      change w3.ownsRow _ _ 5 vc 1 _ at hc
      change w3.ownsRow _ _ 1 vd z.length (z.map (Value.int .u8)) at hd
      rw [← HNZ.out] at hd
      have HB3 := Lib.hid (HB1.out.trans (hb3.mono HB1.out.size))
      obtain ⟨Ac, cc, rfl⟩ := (Row.of_own hc).form
      obtain ⟨Ad, cd, rfl⟩ := (Row.of_own hd).form
      have rb := RW0.out.below (hb3.mono HB1.out.size)
      rw [← HNZ.out] at rb
      have hsz : (w3.alloc (.cells #[.slice Ac 1 cc, .int .i64 N, .slice Ad i cd] 26)).heap.size = w3.heap.size + 1 := by simp
      have z0 : (w3.alloc (.cells #[.slice Ac 1 cc, .int .i64 N, .slice Ad i cd] 26)).cell? ⟨w3.heap.size, 0, none⟩ = some (.slice Ac 1 cc) := by go_simp
      have z1 : (w3.alloc (.cells #[.slice Ac 1 cc, .int .i64 N, .slice Ad i cd] 26)).cell? ⟨w3.heap.size, 1, none⟩ = some (.int .i64 N) := by go_simp
      have z2 : (w3.alloc (.cells #[.slice Ac 1 cc, .int .i64 N, .slice Ad i cd] 26)).cell? ⟨w3.heap.size, 2, none⟩ = some (.slice Ad i cd) := by go_simp
      have B4 : Hid (Below w.heap.size w (w3.alloc (.cells #[.slice Ac 1 cc, .int .i64 N, .slice Ad i cd] 26))) := HB3.out.alloc HB3.out.size _
      have cv1 := conv_row (P := Tryd.prog) (w3.alloc (.cells #[.slice Ac 1 cc, .int .i64 N, .slice Ad i cd] 26)) 24 5 Tryd.underlying24 Tryd.underlying5 ((Row.of_own hd).alloc (Nat.le_refl _) _) 9 Tryd.underlying9
      have cv2 := conv_row (P := Tryd.prog) (w3.alloc (.cells #[.slice Ac 1 cc, .int .i64 N, .slice Ad i cd] 26)) 24 5 Tryd.underlying24 Tryd.underlying5 (rb.alloc (Nat.le_trans HB1.out.size (hb3.size)) _) 9 Tryd.underlying9
      generalize hW4 : (w3.alloc (.cells #[.slice Ac 1 cc, .int .i64 N, .slice Ad i cd] 26)) = w4 at *
      have HW4 := Lib.hid hW4
      have hl4 : w3.heap.size < w4.heap.size := by omega
      generalize strOfNums z = SZ at *
      clear hc hd hb3 rb
      have hrw : (w3.alloc (.cells #[.slice Ac 1 cc, .int .i64 (bytProg N z).size, .slice Ad i cd] 26)) = w4 := hW4
      clear hW4
      try dsimp only
      go_wp2_with (go_at_call 16; refine (num8_any _ _).mono ?_; rintro e w9 ⟨rfl, rfl⟩)
      go_ret
      exact ⟨by first | rfl | simp, B4.out⟩


theorem asmBytes_walk (v0 : Value) (n : Nat) (z : List Int) (v1 : Value) (m : Nat) (zp : List Int) (N : Int) (g : Bool) (w : World) (hT : TabsA w) (r0 : Row w w.heap.size 1 v0 n (z.map (Value.int .u8))) (hz : ∀ x ∈ z, 0 ≤ x ∧ x ≤ 255)
    (r1 : Row w w.heap.size 1 v1 m (zp.map (Value.int .i64))) (hzp : ∀ x ∈ zp, -9223372036854775808 ≤ x ∧ x ≤ 9223372036854775807) (hN : -9223372036854775808 ≤ N ∧ N ≤ 9223372036854775807) :
    Calls Tryd.prog 6 #[v0, v1, .int .i64 N, .bool g] w fun e w' => e = .returned (.bool true) ∧ Below w.heap.size w w' := by
  obtain ⟨A0, c0, rfl⟩ := r0.form
  obtain ⟨A1, c1, rfl⟩ := r1.form
  obtain ⟨u1, u2⟩ := r0.cap
  obtain ⟨u3, u4⟩ := r1.cap
  by_cases h : n < 1 ∨ 60 < n ∨ m < n ∨ N < 60 ∨ 65536 < N
  · exact asmBytes_out A0 A1 c0 c1 n m N g w hT (by omega) (by omega) hN h
  · have hl : n = z.length := by have := r0.len; simp at this; omega
    subst hl
    cases g
    · exact asmBytes_in_false A0 A1 c0 c1 m z zp N w hT r0 hz r1 (by omega) (by omega) (by omega) (by omega)
    · exact asmBytes_in_true A0 A1 c0 c1 m z zp N w hT r0 hz r1 (by omega) (by omega) (by omega) (by omega)
end Go.Proofs.YtfdegdbknponkaaDoor.Words

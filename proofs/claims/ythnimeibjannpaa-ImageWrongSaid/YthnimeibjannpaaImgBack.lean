/- Plain mathematics of chapter 4: a program's bytes are read as that program. Nothing here speaks of one program text. -/
import Derived.Test.YthnimeibjannpaaReadMath
namespace Go.Proofs.Ythnimeibjannpaa.Words
open Go.RowKit
set_option linter.unusedVariables false

theorem wordAt_quad (pre post : List Int) (x : Int) (h0 : 0 ≤ x) (h1 : x ≤ 4294967295) : wordAt (pre ++ (quadZ x ++ post)) pre.length = x := by
  have hl : (pre ++ (quadZ x ++ post)).length = pre.length + 4 + post.length := by simp [quadZ]; omega
  have g : ∀ i, i < 4 → (pre ++ (quadZ x ++ post)).getD (pre.length + i) 0 = (quadZ x).getD i 0 := by
    intro i hi
    rw [List.getD_eq_getElem?_getD, List.getD_eq_getElem?_getD, List.getElem?_append_right (by omega), Nat.add_sub_cancel_left, List.getElem?_append_left (by rw [quadZ_len]; exact hi)]
  have g0 := g 0 (by omega)
  have g1 := g 1 (by omega)
  have g2 := g 2 (by omega)
  have g3 := g 3 (by omega)
  rw [Nat.add_zero] at g0
  unfold wordAt getR
  rw [if_pos (by rw [hl]; omega)]
  simp only [Int.toNat_natCast]
  rw [g0, g1, g2, g3]
  simp [quadZ]
  omega
theorem numAt_quad (pre post : List Int) (x : Nat) (h1 : (x : Int) ≤ 4294967295) (k : Nat) (hk : pre.length = k) : numAt (pre ++ (quadZ x ++ post)) k = x := by
  subst hk
  unfold numAt
  rw [wordAt_quad _ _ _ (by omega) h1]; omega

theorem codeBytes_split {l : List Ins} {j : Nat} {i : Ins} (h : l[j]? = some i) : codeBytes l = codeBytes (l.take j) ++ (quadZ (encZ i) ++ codeBytes (l.drop (j + 1))) := by
  rw [← List.append_assoc, ← codeBytes_take h, ← codeBytes_append, List.take_append_drop]

theorem getD_take {zs : List Int} {i k : Nat} (h : i < k) : (zs.take k).getD i 0 = zs.getD i 0 := by
  rw [List.getD_eq_getElem?_getD, List.getD_eq_getElem?_getD, List.getElem?_take, if_pos h]
theorem numAt_same {zs zs' : List Int} (h : zs.take 16 = zs'.take 16) (hl : 16 ≤ zs.length) (hl' : 16 ≤ zs'.length) {k : Nat} (hk : k ≤ 12) : numAt zs k = numAt zs' k := by
  have g : ∀ i, i < 16 → zs.getD i 0 = zs'.getD i 0 := fun i hi => by rw [← getD_take (k := 16) hi, h, getD_take hi]
  unfold numAt wordAt getR
  rw [if_pos (by omega), if_pos (by omega)]
  simp only [Int.toNat_natCast]
  rw [g k (by omega), g (k + 1) (by omega), g (k + 2) (by omega), g (k + 3) (by omega)]

section
variable {p : Prog} (hr : p.right = true)
include hr
theorem img_nums : numAt (imgZ p) 4 = p.code.length ∧ (numAt (imgZ p) 8 : Int) = p.size ∧ numAt (imgZ p) 12 = p.data.length := by
  obtain ⟨⟨n1, n2, n3, n4, n5⟩, _, _⟩ := right_parts hr
  obtain ⟨s, hs⟩ := Int.eq_ofNat_of_zero_le n3
  refine ⟨?_, ?_, ?_⟩
  · have := numAt_quad [83, 82, 73, 1] (quadZ p.size ++ (quadZ p.data.length ++ (codeBytes p.code ++ p.data))) p.code.length (by omega) 4 rfl
    unfold imgZ imgHead
    simpa only [List.append_assoc] using this
  · have := numAt_quad ([83, 82, 73, 1] ++ quadZ p.code.length) (quadZ p.data.length ++ (codeBytes p.code ++ p.data)) s (by omega) 8 rfl
    unfold imgZ imgHead
    rw [hs] at *
    simp only [List.append_assoc] at this ⊢
    omega
  · have := numAt_quad ([83, 82, 73, 1] ++ quadZ p.code.length ++ quadZ p.size) (codeBytes p.code ++ p.data) p.data.length (by omega) 12 rfl
    unfold imgZ imgHead
    simpa only [List.append_assoc] using this
theorem img_word {j : Nat} {i : Ins} (h : p.code[j]? = some i) : codeWord (imgZ p) j = encZ i := by
  obtain ⟨_, hall, _⟩ := right_parts hr
  have he := enc_range (all_at hall h)
  have hlt : j < p.code.length := (List.getElem?_eq_some_iff.1 h).1
  have := wordAt_quad (imgHead p.code.length p.size p.data.length ++ codeBytes (p.code.take j)) (codeBytes (p.code.drop (j + 1)) ++ p.data) (encZ i) he.1 he.2
  have hlen : (imgHead p.code.length p.size p.data.length ++ codeBytes (p.code.take j)).length = 16 + 4 * j := by
    rw [List.length_append, imgHead_len, codeBytes_len, List.length_take]; omega
  rw [hlen] at this
  unfold codeWord imgZ
  rw [codeBytes_split h]
  simpa only [List.append_assoc] using this
theorem img_code : codeTo (imgZ p) p.code.length = p.code := by
  obtain ⟨_, hall, _⟩ := right_parts hr
  apply List.ext_getElem?
  intro j
  by_cases hj : j < p.code.length
  · obtain ⟨i, hi⟩ : ∃ i, p.code[j]? = some i := ⟨_, List.getElem?_eq_getElem hj⟩
    rw [hi]
    unfold codeTo
    rw [List.getElem?_map, List.getElem?_range hj]
    show some (insAt (imgZ p) j) = some i
    unfold insAt
    rw [img_word hr hi, fields_enc (all_at hall hi)]
  · rw [List.getElem?_eq_none (by rw [codeTo_len]; omega), List.getElem?_eq_none (by omega)]
theorem img_decoded : decodedTo (imgZ p) p.code.length = true := by
  obtain ⟨_, hall, _⟩ := right_parts hr
  unfold decodedTo
  rw [List.all_eq_true]
  intro j hj
  obtain ⟨i, hi⟩ : ∃ i, p.code[j]? = some i := ⟨_, List.getElem?_eq_getElem (List.mem_range.1 hj)⟩
  rw [img_word hr hi]
  exact (dec_enc (all_at hall hi)).1
/-- A program's bytes are read as that program. -/
theorem img_back : readE (imgZ p) = 0 ∧ readP (imgZ p) = p := by
  obtain ⟨⟨n1, n2, n3, n4, n5⟩, hall, ht⟩ := right_parts hr
  obtain ⟨h4, h8, h12⟩ := img_nums hr
  have hlen := imgZ_len p
  have hh : headOk (imgZ p) = true := by
    unfold headOk
    rw [Bool.and_eq_true, decide_eq_true_iff, decide_eq_true_iff]
    exact ⟨by omega, rfl⟩
  have hn : numsOk (imgZ p) = true := by
    unfold numsOk
    rw [decide_eq_true_iff, h4, h12]
    exact ⟨n1, n2, by omega, by omega, hlen⟩
  have hd : decodedTo (imgZ p) (numAt (imgZ p) 4) = true := by rw [h4]; exact img_decoded hr
  have ht' : targetsOk (numAt (imgZ p) 4) 0 (codeTo (imgZ p) (numAt (imgZ p) 4)) = true := by rw [h4, img_code hr]; exact ht
  obtain ⟨q1, q2⟩ := read_yes hh hn hd ht'
  refine ⟨q1, q2.trans ?_⟩
  rw [Prog.eq_iff]
  refine ⟨?_, h8, ?_⟩
  · show codeTo (imgZ p) (numAt (imgZ p) 4) = p.code
    rw [h4, img_code hr]
  · show (imgZ p).drop (16 + 4 * numAt (imgZ p) 4) = p.data
    rw [h4]
    unfold imgZ
    rw [List.drop_append_of_le_length (by rw [List.length_append, imgHead_len, codeBytes_len]; omega), List.drop_eq_nil_of_le (by rw [List.length_append, imgHead_len, codeBytes_len]; omega), List.nil_append]
/-- With another length, and that head, they are none. -/
theorem img_other {zs : List Int} (h : zs.length < 16 ∨ zs.take 16 = (imgZ p).take 16) (hne : zs.length ≠ (imgZ p).length) : readE zs = 2 ∧ readP zs = ⟨[], 0, []⟩ := by
  obtain ⟨h4, h8, h12⟩ := img_nums hr
  have hlen := imgZ_len p
  by_cases hs : zs.length < 16
  · refine read_head ?_
    unfold headOk
    rw [decide_eq_false (by omega)]; rfl
  · have ht : zs.take 16 = (imgZ p).take 16 := by
      rcases h with h | h
      · exact absurd h hs
      · exact h
    refine read_nums ?_
    unfold numsOk
    rw [decide_eq_false_iff_not, numAt_same ht (by omega) (by omega) (show 4 ≤ 12 by omega), numAt_same ht (by omega) (by omega) (show 8 ≤ 12 by omega), numAt_same ht (by omega) (by omega) (show 12 ≤ 12 by omega), h4, h12]
    omega
end
/-- No two programs that may be have the same bytes. -/
theorem img_inj {p q : Prog} (hp : p.right = true) (hq : q.right = true) : imgZ p = imgZ q ↔ p = q := by
  refine ⟨fun h => ?_, fun h => by rw [h]⟩
  rw [← (img_back hp).2, ← (img_back hq).2, h]
end Go.Proofs.Ythnimeibjannpaa.Words

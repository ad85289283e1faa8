/- Several texts in one: ShowProgMath, ShowLinMath, ShowProg, ShowText, ImageHelp, OpenProg. -/
import Derived.Test.YtfdegdbknponkaaDoorG11
import Derived.Test.YtfdegdbknponkaaDoorG08
import Derived.Test.YtfdegdbknponkaaDoorG07
import Derived.Test.YtfdegdbknponkaaDoorRows
import Derived.Test.YtfdegdbknponkaaDoorG01
import Derived.Deep.Slices

/- What a program is shown as, and what that is put together of. Plain mathematics. -/
namespace Go.Proofs.YtfdegdbknponkaaDoor.Words
set_option maxRecDepth 100000
set_option linter.unusedVariables false
set_option linter.unusedSimpArgs false
open Go.Lib

def aheadS (i : Nat) : List UInt8 := if i % 16 = 0 then [98, 121, 116, 101, 32] else [44, 32]
def nlS (n i : Nat) : List UInt8 := if i % 16 = 15 ∨ i + 1 = n then [10] else []
def bytT (bs : List Int) (i : Nat) : List UInt8 := aheadS i ++ decN (bs.getD i 0) ++ nlS bs.length i
def headT (p : Prog) : List UInt8 := [115, 105, 122, 101, 32] ++ decN p.size ++ [10]
def codT (p : Prog) (i : Nat) : List UInt8 := showI (p.code.getD i ins0) ++ [10]
def txtD (p : Prog) (i : Nat) : List UInt8 := headT p ++ (List.range' 0 i).flatMap (bytT p.data)
def txtC (p : Prog) (i : Nat) : List UInt8 := txtD p p.data.length ++ (List.range' 0 i).flatMap (codT p)
/-- What a program is shown as. -/
def showT (p : Prog) : List UInt8 := txtC p p.code.length
def textS (p : Prog) : List UInt8 := if p.right = true then showT p else []
def datP (bs : List Int) (i : Nat) : List Part := [.s (aheadS i), .n (bs.getD i 0)]
def nlP (n i : Nat) : List Part := if i % 16 = 15 ∨ i + 1 = n then [.s [10]] else []
def headP (p : Prog) : List Part := [.s [115, 105, 122, 101, 32], .n p.size, .s [10]]
def codP (p : Prog) (i : Nat) : List Part := [.ins (p.code.getD i ins0), .s [10]]
def prtD (p : Prog) (i : Nat) : List Part := headP p ++ (List.range' 0 i).flatMap (fun j => datP p.data j ++ nlP p.data.length j)
def prtL (p : Prog) (m j : Nat) : List Part := prtD p m ++ (List.range' m j).flatMap (datP p.data)
def prtC (p : Prog) (i : Nat) : List Part := prtD p p.data.length ++ (List.range' 0 i).flatMap (codP p)
def progParts (p : Prog) : List Part := prtC p p.code.length

theorem range_last (m j : Nat) : List.range' m (j + 1) = List.range' m j ++ [m + j] := by rw [List.range'_concat]; simp
theorem txtD_zero (p : Prog) : txtD p 0 = headT p := by simp [txtD]
theorem txtD_succ (p : Prog) (i : Nat) : txtD p (i + 1) = txtD p i ++ bytT p.data i := by
  unfold txtD; rw [range_last, List.flatMap_append, List.append_assoc]; simp
theorem txtC_zero (p : Prog) : txtC p 0 = txtD p p.data.length := by simp [txtC]
theorem txtC_succ (p : Prog) (i : Nat) : txtC p (i + 1) = txtC p i ++ codT p i := by
  unfold txtC; rw [range_last, List.flatMap_append, List.append_assoc]; simp
theorem prtD_zero (p : Prog) : prtD p 0 = headP p := by simp [prtD]
theorem prtL_zero (p : Prog) (m : Nat) : prtL p m 0 = prtD p m := by simp [prtL]
theorem prtL_succ (p : Prog) (m j : Nat) : prtL p m (j + 1) = prtL p m j ++ datP p.data (m + j) := by
  unfold prtL; rw [range_last, List.flatMap_append, List.append_assoc]; simp
theorem prtC_zero (p : Prog) : prtC p 0 = prtD p p.data.length := by simp [prtC]
theorem prtC_succ (p : Prog) (i : Nat) : prtC p (i + 1) = prtC p i ++ codP p i := by
  unfold prtC; rw [range_last, List.flatMap_append, List.append_assoc]; simp
/-- A line of bytes, and its end. -/
theorem prt_line {p : Prog} {m e : Nat} (hm : m % 16 = 0) (hmn : m < p.data.length) (he : e = min (m + 16) p.data.length) : prtL p m (e - m) ++ [.s [10]] = prtD p e := by
  obtain ⟨L, hL⟩ : ∃ L, e - m = L + 1 := ⟨e - m - 1, by omega⟩
  have h1 : ∀ k, k ≤ L → (List.range' m k).flatMap (fun j => datP p.data j ++ nlP p.data.length j) = (List.range' m k).flatMap (datP p.data) := by
    intro k
    induction k with
    | zero => intro _; rfl
    | succ k ih =>
      intro hk
      rw [range_last, List.flatMap_append, List.flatMap_append, ih (by omega)]
      have : nlP p.data.length (m + k) = [] := if_neg (by omega)
      simp [this]
  have h2 : nlP p.data.length (m + L) = [.s [10]] := if_pos (by omega)
  have hR : List.range' 0 (m + (L + 1)) = List.range' 0 m ++ List.range' m (L + 1) := by
    have := List.range'_append_1 (s := 0) (m := m) (n := L + 1)
    rw [Nat.zero_add] at this
    exact this.symm
  unfold prtL prtD
  rw [show e = m + (L + 1) by omega, show m + (L + 1) - m = L + 1 by omega, hR, List.flatMap_append, range_last m L, List.flatMap_append, List.flatMap_append, h1 L (Nat.le_refl _)]
  simp [h2]
theorem prtD_len (p : Prog) : ∀ i, (prtD p i).length ≤ 3 + 3 * i
  | 0 => by rw [prtD_zero]; simp [headP]
  | i + 1 => by
    have := prtD_len p i
    have e : prtD p (i + 1) = prtD p i ++ (datP p.data i ++ nlP p.data.length i) := by
      unfold prtD; rw [range_last, List.flatMap_append, List.append_assoc]; simp
    have : (nlP p.data.length i).length ≤ 1 := by unfold nlP; split <;> simp
    rw [e, List.length_append, List.length_append]
    have : (datP p.data i).length = 2 := rfl
    omega
theorem prtL_len (p : Prog) (m : Nat) : ∀ j, (prtL p m j).length = (prtD p m).length + 2 * j
  | 0 => by rw [prtL_zero]; rfl
  | j + 1 => by
    rw [prtL_succ, List.length_append, prtL_len p m j]
    have : (datP p.data (m + j)).length = 2 := rfl
    omega
theorem prtC_len (p : Prog) : ∀ i, (prtC p i).length ≤ 3 + 3 * p.data.length + 2 * i
  | 0 => by rw [prtC_zero]; have := prtD_len p p.data.length; omega
  | i + 1 => by
    rw [prtC_succ, List.length_append]
    have := prtC_len p i
    have : (codP p i).length = 2 := rfl
    omega
theorem data_in {p : Prog} (hd : ∀ b ∈ p.data, 0 ≤ b ∧ b ≤ 255) (k : Nat) : 0 ≤ p.data.getD k 0 ∧ p.data.getD k 0 ≤ 255 := by
  rw [List.getD_eq_getElem?_getD]
  cases h : p.data[k]? with
  | none => simp
  | some x => exact hd x (List.mem_of_getElem? h)
theorem partsTxt_flat {α : Type} (f : α → List Part) (g : α → List UInt8) : ∀ l : List α, (∀ x ∈ l, partsTxt (f x) = some (g x)) → partsTxt (l.flatMap f) = some (l.flatMap g)
  | [], _ => rfl
  | x :: l, h => by
    rw [List.flatMap_cons, List.flatMap_cons]
    exact partsTxt_append (h x (by simp)) (partsTxt_flat f g l (fun y hy => h y (by simp [hy])))
theorem code_right {p : Prog} (hr : p.right = true) {j : Nat} (hj : j < p.code.length) : rightB (p.code.getD j ins0) = true := by
  obtain ⟨_, ha, _⟩ := right_parts hr
  rw [List.getD_eq_getElem?_getD, List.getElem?_eq_getElem hj]
  exact List.all_eq_true.1 ha _ (List.getElem_mem hj)
theorem progParts_txt {p : Prog} (hr : p.right = true) : partsTxt (progParts p) = some (showT p) := by
  unfold progParts prtC showT txtC prtD txtD
  refine partsTxt_append (partsTxt_append ?_ (partsTxt_flat _ _ _ fun j _ => ?_)) (partsTxt_flat _ _ _ fun j hj => ?_)
  · show partsTxt [.s [115, 105, 122, 101, 32], .n p.size, .s [10]] = _
    rw [partsTxt_cons (a := [115, 105, 122, 101, 32]) rfl (partsTxt_cons (a := decN p.size) rfl (partsTxt_some (p := .s [10]) rfl))]
    simp [headT]
  · have e1 : partsTxt (datP p.data j) = some (aheadS j ++ decN (p.data.getD j 0)) := by
      show partsTxt [.s (aheadS j), .n (p.data.getD j 0)] = _
      rw [partsTxt_cons (a := aheadS j) rfl (partsTxt_some (p := .n (p.data.getD j 0)) rfl)]
    have e2 : partsTxt (nlP p.data.length j) = some (nlS p.data.length j) := by unfold nlP nlS; split <;> rfl
    rw [partsTxt_append e1 e2]
    rfl
  · have hj' : j < p.code.length := by simpa using hj
    have t : (Part.ins (p.code.getD j ins0)).text = some (showI (p.code.getD j ins0)) := if_pos (code_right hr hj')
    show partsTxt [.ins (p.code.getD j ins0), .s [10]] = _
    rw [partsTxt_cons t (partsTxt_some (p := .s [10]) rfl)]
    rfl
theorem progParts_ok {p : Prog} (hr : p.right = true) (hd : ∀ b ∈ p.data, 0 ≤ b ∧ b ≤ 255) : ∀ q ∈ progParts p, q.ok := by
  obtain ⟨⟨_, _, hs1, hs2, _⟩, _, _⟩ := right_parts hr
  intro q hq
  unfold progParts prtC prtD at hq
  rw [List.mem_append, List.mem_append, List.mem_flatMap, List.mem_flatMap] at hq
  rcases hq with (hq | ⟨j, _, hq⟩) | ⟨j, hj, hq⟩
  · simp only [headP, List.mem_cons, List.not_mem_nil, or_false] at hq
    rcases hq with rfl | rfl | rfl
    · show ([115, 105, 122, 101, 32] : List UInt8).length ≤ 60; decide
    · have := decN_len (n := p.size) (by omega)
      exact ⟨by omega, by omega, by omega⟩
    · show ([10] : List UInt8).length ≤ 60; decide
  · rw [List.mem_append] at hq
    rcases hq with hq | hq
    · simp only [datP, List.mem_cons, List.not_mem_nil, or_false] at hq
      rcases hq with rfl | rfl
      · show (aheadS j).length ≤ 60; unfold aheadS; split <;> decide
      · have h := data_in hd j
        have := decN_len (n := p.data.getD j 0) (by omega)
        exact ⟨by omega, by omega, by omega⟩
    · unfold nlP at hq
      split at hq
      · rw [List.mem_singleton.1 hq]; show ([10] : List UInt8).length ≤ 60; decide
      · cases hq
  · have hj' : j < p.code.length := by simpa using hj
    simp only [codP, List.mem_cons, List.not_mem_nil, or_false] at hq
    rcases hq with rfl | rfl
    · obtain ⟨ho, hdd, ha, hb, hi⟩ := right_range (code_right hr hj')
      unfold Part.ok Ins.Fits
      omega
    · show ([10] : List UInt8).length ≤ 60; decide
theorem progParts_len (p : Prog) : 3 ≤ (progParts p).length ∧ (progParts p).length ≤ 3 + 3 * p.data.length + 2 * p.code.length := by
  refine ⟨?_, prtC_len p _⟩
  unfold progParts prtC prtD headP
  simp only [List.length_append, List.length_cons, List.length_nil]
  omega
end Go.Proofs.YtfdegdbknponkaaDoor.Words

/- How many lines a program is shown in. Plain mathematics. -/
namespace Go.Proofs.YtfdegdbknponkaaDoor.Words
set_option maxRecDepth 100000
set_option linter.unusedVariables false
set_option linter.unusedSimpArgs false
open Go.Lib

def cnt10 (l : List UInt8) : Nat := (l.filter (fun c => decide (c = 10))).length
theorem cnt10_append (a b : List UInt8) : cnt10 (a ++ b) = cnt10 a + cnt10 b := by unfold cnt10; rw [List.filter_append, List.length_append]
theorem cnt10_none {l : List UInt8} (h : ∀ c ∈ l, c ≠ 10) : cnt10 l = 0 := by
  unfold cnt10
  rw [List.filter_eq_nil_iff.2 (fun c hc => by simp [h c hc])]
  rfl
theorem digs_no10 (n : Nat) : ∀ c ∈ digs 10 false n, c ≠ 10 := by
  intro c hc h
  subst h
  have hd := digs_dig (b := 10) (by omega) (by omega) false n 10 hc
  have := hd.dig
  revert this
  decide
theorem decN_no10 (n : Int) : ∀ c ∈ decN n, c ≠ 10 := by
  intro c hc
  unfold decN at hc
  split at hc
  · rcases List.mem_cons.1 hc with rfl | hc
    · decide
    · exact digs_no10 _ c hc
  · exact digs_no10 _ c hc
theorem nameN_no10 {op : Int} (h : 1 ≤ op ∧ op ≤ 41) : ∀ c ∈ nameN op, c ≠ 10 := by
  have hall : ((List.range 42).all fun op => (nameN (op : Int)).all fun c => decide (c ≠ 10)) = true := by decide +kernel
  have h1 := List.all_eq_true.1 hall op.toNat (List.mem_range.2 (by omega))
  rw [show ((op.toNat : Nat) : Int) = op by omega] at h1
  intro c hc
  exact of_decide_eq_true (List.all_eq_true.1 h1 c hc)
theorem regN_no10 (d : Int) : ∀ c ∈ regN d, c ≠ 10 := by
  intro c hc
  unfold regN at hc
  rcases List.mem_cons.1 hc with rfl | hc
  · decide
  · exact digs_no10 _ c hc
theorem showI_no10 {i : Ins} (hr : rightB i = true) : ∀ c ∈ showI i, c ≠ 10 := by
  have hn := nameN_no10 (right_range hr).1
  have hd := regN_no10 i.d
  have ha := regN_no10 i.a
  have hb := regN_no10 i.b
  have hi := decN_no10 i.imm
  intro c hc e
  subst e
  have n1 : (10 : UInt8) ∉ nameN i.op := fun h => hn 10 h rfl
  have n2 : (10 : UInt8) ∉ regN i.d := fun h => hd 10 h rfl
  have n3 : (10 : UInt8) ∉ regN i.a := fun h => ha 10 h rfl
  have n4 : (10 : UInt8) ∉ regN i.b := fun h => hb 10 h rfl
  have n5 : (10 : UInt8) ∉ decN i.imm := fun h => hi 10 h rfl
  rw [showI_form rfl] at hc
  rcases formZ_cases i.op with ⟨hf, _⟩ | ⟨hf, _⟩ | ⟨hf, _⟩ | ⟨hf, _⟩ | ⟨hf, _⟩ | ⟨hf, _⟩ | ⟨hf, _⟩ | ⟨hf, _⟩ | ⟨hf, _⟩ <;>
    (rw [hf] at hc; simp [pcText, Pc.text, n1, n2, n3, n4, n5] at hc)
theorem cnt_bytT (bs : List Int) (i : Nat) : cnt10 (bytT bs i) = if i % 16 = 15 ∨ i + 1 = bs.length then 1 else 0 := by
  unfold bytT
  rw [cnt10_append, cnt10_append, cnt10_none (decN_no10 _)]
  have h1 : cnt10 (aheadS i) = 0 := by unfold aheadS; split <;> rfl
  rw [h1]
  unfold nlS
  split <;> rfl
theorem cnt_txtD (p : Prog) : ∀ i, i ≤ p.data.length → cnt10 (txtD p i) = 1 + if i = p.data.length then (i + 15) / 16 else i / 16
  | 0, h => by
    rw [txtD_zero]
    unfold headT
    rw [cnt10_append, cnt10_append, cnt10_none (decN_no10 _)]
    show 0 + 0 + 1 = _
    split <;> omega
  | i + 1, h => by
    rw [txtD_succ, cnt10_append, cnt_txtD p i (by omega), cnt_bytT, if_neg (by omega)]
    by_cases h1 : i + 1 = p.data.length
    · rw [if_pos (.inr h1), if_pos h1]; omega
    · rw [if_neg h1]
      by_cases h2 : i % 16 = 15
      · rw [if_pos (.inl h2)]; omega
      · rw [if_neg (by omega)]; omega
theorem cnt_txtC {p : Prog} (hr : p.right = true) : ∀ i, i ≤ p.code.length → cnt10 (txtC p i) = 1 + (p.data.length + 15) / 16 + i
  | 0, _ => by rw [txtC_zero, cnt_txtD p _ (Nat.le_refl _), if_pos rfl]; rfl
  | i + 1, h => by
    rw [txtC_succ, cnt10_append, cnt_txtC hr i (by omega)]
    unfold codT
    rw [cnt10_append, cnt10_none (showI_no10 (code_right hr (by omega)))]
    show _ + (0 + 1) = _
    omega
theorem cnt_showT {p : Prog} (hr : p.right = true) : cnt10 (showT p) = 1 + (p.data.length + 15) / 16 + p.code.length := cnt_txtC hr _ (Nat.le_refl _)
theorem showT_end {p : Prog} (hr : p.right = true) : ∃ l, showT p = l ++ [10] := by
  obtain ⟨⟨h1, _⟩, _⟩ := right_parts hr
  obtain ⟨n, hn⟩ : ∃ n, p.code.length = n + 1 := ⟨p.code.length - 1, by omega⟩
  unfold showT
  rw [hn, txtC_succ]
  unfold codT
  exact ⟨txtC p n ++ showI (p.code.getD n ins0), by rw [List.append_assoc]⟩
theorem bytT_len {bs : List Int} {i : Nat} (h : 0 ≤ bs.getD i 0 ∧ bs.getD i 0 ≤ 255) : (bytT bs i).length ≤ 18 := by
  have := decN_len (n := bs.getD i 0) (by omega)
  unfold bytT
  rw [List.length_append, List.length_append]
  have h1 : (aheadS i).length ≤ 5 := by unfold aheadS; split <;> simp
  have h2 : (nlS bs.length i).length ≤ 1 := by unfold nlS; split <;> simp
  omega
theorem txtD_len {p : Prog} (hs : 0 ≤ p.size ∧ p.size ≤ 65536) (hd : ∀ b ∈ p.data, 0 ≤ b ∧ b ≤ 255) : ∀ i, (txtD p i).length ≤ 20 + 18 * i
  | 0 => by
    have := decN_len (n := p.size) (by omega)
    rw [txtD_zero]
    unfold headT
    simp only [List.length_append, List.length_cons, List.length_nil]
    omega
  | i + 1 => by
    have := txtD_len hs hd i
    have := bytT_len (data_in hd i)
    rw [txtD_succ, List.length_append]
    omega
theorem txtC_len {p : Prog} (hr : p.right = true) (hd : ∀ b ∈ p.data, 0 ≤ b ∧ b ≤ 255) : ∀ i, i ≤ p.code.length → (txtC p i).length ≤ 20 + 18 * p.data.length + 41 * i
  | 0, _ => by
    obtain ⟨⟨_, _, h1, h2, _⟩, _⟩ := right_parts hr
    rw [txtC_zero]
    exact txtD_len ⟨h1, h2⟩ hd _
  | i + 1, h => by
    have := txtC_len hr hd i (by omega)
    have := showI_len (code_right hr (show i < p.code.length by omega))
    rw [txtC_succ, List.length_append]
    have e : (codT p i).length ≤ 41 := by
      unfold codT; rw [List.length_append]; exact Nat.add_le_add this (Nat.le_refl 1)
    omega
theorem cnt_take {l : List UInt8} {k : Nat} {c : UInt8} (h : l[k]? = some c) : cnt10 (l.take (k + 1)) = cnt10 (l.take k) + if c = 10 then 1 else 0 := by
  obtain ⟨hlt, rfl⟩ := List.getElem?_eq_some_iff.1 h
  rw [List.take_add_one, List.getElem?_eq_getElem hlt, cnt10_append]
  congr 1
  show cnt10 [l[k]] = _
  unfold cnt10
  by_cases h : l[k] = 10 <;> simp [h]
theorem cnt_le (l : List UInt8) : cnt10 l ≤ l.length := by unfold cnt10; exact List.length_filter_le _ _
end Go.Proofs.YtfdegdbknponkaaDoor.Words

/- What a program is put together of. -/
namespace Go.Proofs.YtfdegdbknponkaaDoor.Words
set_option maxRecDepth 100000
open Go.RowKit Go.Shelf Go.Lib
set_option linter.unusedVariables false
set_option linter.unusedSimpArgs false

set_option maxHeartbeats 8000000 in
theorem partsOfProg_any (A D : Option Addr) (c d : Nat) (p : Prog) (w : World) (hP : ProgV w w.heap.size (.slice A p.code.length c) (.slice D p.data.length d) p) (hf : p.Fits) (h5 : p.data.length ≤ 1000) (h6 : p.code.length ≤ 1000) :
    Calls Tryd.prog 103 #[.agg #[.slice A p.code.length c, .int .i64 p.size, .slice D p.data.length d]] w fun e w' => ∃ v, e = .returned v ∧ w'.ownsRow w.heap.size 20 1 v (progParts p).length (partVals (progParts p)) ∧ Below w.heap.size w w' := by
  obtain ⟨i0, hi, hz0, hz1, hz2⟩ := info_parts (show (Tryd.prog.info? 20).map (fun i => (i.zero, i.size, i.bytes)) = some (some .nilIface, 1, 16) by kernel_rfl)
  have HI := Lib.hid hi
  have HZ0 := Lib.hid hz0
  have HZ1 := Lib.hid hz1
  have HZ2 := Lib.hid hz2
  clear hi hz0 hz1 hz2
  obtain ⟨u1, u2⟩ := hP.code.cap
  obtain ⟨u3, u4⟩ := hP.data.cap
  have hd := hf.2.2
  have HDI := Lib.hid (fun k => data_in hd k)
  have H5 := Lib.hid h5
  have H6 := Lib.hid h6
  have HPV := Lib.hid (hP.alloc (Nat.le_refl _) (.cells #[.slice A p.code.length c, .int .i64 p.size, .slice D p.data.length d] 26))
  have hbx := Box.new w [.slice A p.code.length c, .int .i64 p.size, .slice D p.data.length d] 26
  change Box (w.alloc (.cells #[.slice A p.code.length c, .int .i64 p.size, .slice D p.data.length d] 26)) w.heap.size _ at hbx
  have HBX := Lib.hid hbx
  have HBW := Lib.hid ((Below.refl w.heap.size w).alloc (Nat.le_refl _) (.cells #[.slice A p.code.length c, .int .i64 p.size, .slice D p.data.length d] 26))
  have hws : (w.alloc (.cells #[.slice A p.code.length c, .int .i64 p.size, .slice D p.data.length d] 26)).heap.size = w.heap.size + 1 := by simp
  have HWS := Lib.hid hws
  have hl := own_lit (w.alloc (.cells #[.slice A p.code.length c, .int .i64 p.size, .slice D p.data.length d] 26)) [.iface 9 (.string ⟨#[115, 105, 122, 101, 32]⟩), .iface 3 (.int .i64 p.size), .iface 9 (.string ⟨#[10]⟩)] 20 (by simp)
  rw [hws] at hl
  have HL := Lib.hid hl
  clear hP hd hf hl hbx hws
  go_enter Tryd.func103, Tryd.ntmps103
  go_wp2_with fail
  generalize (w.alloc (.cells #[.slice A p.code.length c, .int .i64 p.size, .slice D p.data.length d] 26)) = W at *
  have HB2 : Hid (Below (w.heap.size + 1) W (W.alloc (.cells #[.iface 9 (.string ⟨#[115, 105, 122, 101, 32]⟩), .iface 3 (.int .i64 p.size), .iface 9 (.string ⟨#[10]⟩)] 20))) := Lib.hid ((Below.refl _ W).alloc (by rw [HWS.out]; exact Nat.le_refl _) _)
  change Hid (World.ownsRow (W.alloc (.cells #[.iface 9 (.string ⟨#[115, 105, 122, 101, 32]⟩), .iface 3 (.int .i64 p.size), .iface 9 (.string ⟨#[10]⟩)] 20)) (w.heap.size + 1) 20 1 (.slice (some ⟨w.heap.size + 1, 0, none⟩) 3 3) 3 (partVals (headP p))) at HL
  generalize (W.alloc (.cells #[.iface 9 (.string ⟨#[115, 105, 122, 101, 32]⟩), .iface 3 (.int .i64 p.size), .iface 9 (.string ⟨#[10]⟩)] 20)) = X at *
  have KB0 := Lib.hid (fun (x : World) (h : Below (w.heap.size + 1) W x) => HBX.out.below h (Nat.lt_succ_self _))
  have KP0 := Lib.hid (fun (x : World) (h : Below (w.heap.size + 1) W x) => HPV.out.below (h.mono (Nat.le_succ _)))
  go_loopw [3, 4] (fun v q wr => ∃ m : Nat, m ≤ p.data.length + 15 ∧ m % 16 = 0 ∧ q = .int .i64 m ∧ wr.ownsRow (w.heap.size + 1) 20 1 v (prtD p (min m p.data.length)).length (partVals (prtD p (min m p.data.length))) ∧ Below (w.heap.size + 1) W wr) (fun _ q _ => p.data.length + 16 - (intOf q).toNat)
  case atStart =>
    refine ⟨0, Nat.zero_le _, rfl, rfl, ?_, HB2.out⟩
    rw [Nat.zero_min, prtD_zero]
    exact HL.out
  case round =>
    obtain ⟨m, hm, hm16, rfl, ho, hb⟩ := hrel
    have HO := Lib.hid ho
    have HB := Lib.hid hb
    have HM := Lib.hid hm
    have HM16 := Lib.hid hm16
    have c2 := (KB0.out _ hb).cell (k := 2) rfl
    obtain ⟨A3, cc, rfl⟩ := (Row.of_own ho).form
    generalize hpl : (prtD p (min m p.data.length)).length = pl at *
    have hpn : pl ≤ 3003 := by have := prtD_len p (min m p.data.length); omega
    have m0 : (0 : Int) ≤ m := by omega
    have mN : (m : Int) ≤ 1015 := by omega
    have H55 := h5
    by_cases hlt : m < p.data.length
    · have hpv := (KP0.out _ hb).data
      obtain ⟨g, o, rfl, hg, _⟩ := hpv.at_ (by omega)
      obtain ⟨e, he⟩ : ∃ e, e = min (m + 16) p.data.length := ⟨_, rfl⟩
      have hmin : min ((m : Int) + 16) (p.data.length : Int) = (e : Int) := by omega
      have e0 : (m : Int) ≤ e := by omega
      have e1 : (e : Int) ≤ p.data.length := by omega
      have e2 : (p.data.length : Int) ≤ d := by omega
      have hlt' : (m : Int) < p.data.length := by omega
      have nd : decide ((m : Int) < (p.data.length : Int)) = true := decide_eq_true hlt'
      have HE := Lib.hid he
      have HPVr := Lib.hid hpv
      have HLT := Lib.hid hlt
      clear hpv ho hb hm hm16 he hlt hg
      go_wp2_with fail
      clear c2 nd
      have hmm : min m p.data.length = m := by have := HLT.out; omega
      rw [hmm] at HO hpl
      have HPL := Lib.hid hpl
      clear hmm hpl hmin
      obtain ⟨L, hL⟩ : ∃ L, L = e - m := ⟨_, rfl⟩
      have hL16 : L ≤ 16 := by have := HE.out; omega
      have HLL := Lib.hid hL
      rw [← hL]
      clear hL
      go_loopw [3, 5, 34] (fun v ah q wr2 => ∃ j : Nat, j ≤ L ∧ ah = .string (txt (if j = 0 then [98, 121, 116, 101, 32] else [44, 32])) ∧ q = .int .i64 j ∧ wr2.ownsRow (w.heap.size + 1) 20 1 v (pl + 2 * j) (partVals (prtL p m j)) ∧ Below (w.heap.size + 1) W wr2) (fun _ _ q _ => L - (intOf q).toNat)
      case atStart =>
        refine ⟨0, Nat.zero_le _, rfl, rfl, ?_, HB.out⟩
        rw [prtL_zero]
        exact HO.out
      case round =>
        obtain ⟨j, hj, rfl, rfl, ho2, hb2⟩ := hrel
        have HO2 := Lib.hid ho2
        have HB3 := Lib.hid hb2
        obtain ⟨A4, cc4, rfl⟩ := (Row.of_own ho2).form
        have hbs : w.heap.size + 1 ≤ wr.heap.size := by have := hb2.size; rw [HWS.out] at this; exact this
        have HBS := Lib.hid hbs
        by_cases hjl : j < L
        · have hmj : m + j < p.data.length := by have := HLL.out; have := HE.out; omega
          have hcc := (KP0.out _ hb2).data.num (m + j) hmj
          rw [← Nat.add_assoc] at hcc
          obtain ⟨b0, b1⟩ := HDI.out (m + j)
          obtain ⟨b, hbb⟩ : ∃ b, b = p.data.getD (m + j) 0 := ⟨_, rfl⟩
          rw [← hbb] at hcc b0 b1
          have hah : (if j = 0 then [98, 121, 116, 101, 32] else [44, 32] : List UInt8) = aheadS (m + j) := by
            unfold aheadS
            have := HM16.out
            by_cases h0 : j = 0
            · rw [if_pos h0, if_pos (by omega)]
            · rw [if_neg h0, if_neg (by omega)]
          rw [hah]
          have HDP : Hid (partVals (prtL p m j) ++ [.iface 9 (.string (txt (aheadS (m + j)))), .iface 3 (.int .i64 b)] = partVals (prtL p m (j + 1))) := Lib.hid (by rw [prtL_succ, hbb]; simp [partVals, datP]; exact ⟨rfl, rfl⟩)
          generalize txt (aheadS (m + j)) = AH at *
          have HJL := Lib.hid hjl
          have j0 : (0 : Int) ≤ j := by omega
          have j1 : (j : Int) < L := by omega
          have hLe : e - m = L := HLL.out.symm
          clear hbb hah hmj ho2 hb2 hj hjl hbs
          go_wp2_with (at_builtin; refine wpList_append_row _ rfl (.tmp 38) (.tmp 44) 131 rfl (w.heap.size + 1) 20 i0 _ 1 16 Tryd.underlying131 HI.out HZ0.out HZ1.out HZ2.out rfl (by omega) (.slice A4 (pl + 2 * j) cc4) (pl + 2 * j) _ rfl (HO2.out.alloc _) _ (.slice (some ⟨wr.heap.size, 0, none⟩) 2 2) 2 [.iface 9 (.string AH), .iface 3 (.int .i64 b)] rfl (Row.of_own (own_lit wr [.iface 9 (.string AH), .iface 3 (.int .i64 b)] 20 (by simp))) (by simp [Value.oneCell']) (by unfold maxLen; omega) (by omega) (by have := HBS.out; simp; omega) ?_; intro v3 y3 hO5 hg3; have HO5 := Lib.hid hO5; have HG3 := Lib.hid hg3; clear hO5 hg3)
          go_roundw
          case rel =>
            refine ⟨j + 1, HJL.out, rfl, by go_num, ?_, ?_⟩
            · have := HO5.out
              rw [HDP.out] at this
              exact this
            · exact (HB3.out.alloc HBS.out _).grown HG3.out (by have := HBS.out; simp; omega) (fun k hk => (HO2.out.lt k hk).1)
          case measure => have := HJL.out; simp only [intOf]; omega
        · have hjj : j = L := by omega
          subst hjj
          have hLe : e - m = j := HLL.out.symm
          have hline : partVals (prtL p m j) ++ [.iface 9 (.string ⟨#[10]⟩)] = partVals (prtD p e) ∧ pl + 2 * j + 1 = (prtD p e).length := by
            have h1 := prt_line HM16.out HLT.out HE.out
            rw [hLe] at h1
            have h2 := congrArg List.length h1
            rw [List.length_append, prtL_len, HPL.out] at h2
            refine ⟨?_, by simpa using h2⟩
            rw [← h1]
            simp [partVals]
            rfl
          have HLINE := Lib.hid hline
          have k1 : decide ((j : Int) < (j : Int)) = false := decide_eq_false (by omega)
          clear hline ho2 hb2 hj hjl hbs
          go_wp2_with (at_builtin; refine wpList_append_row _ rfl (.tmp 47) (.tmp 49) 131 rfl (w.heap.size + 1) 20 i0 _ 1 16 Tryd.underlying131 HI.out HZ0.out HZ1.out HZ2.out rfl (by omega) (.slice A4 (pl + 2 * j) cc4) (pl + 2 * j) _ rfl (HO2.out.alloc _) _ (.slice (some ⟨wr.heap.size, 0, none⟩) 1 1) 1 [.iface 9 (.string ⟨#[10]⟩)] rfl (Row.of_own (own_lit wr [.iface 9 (.string ⟨#[10]⟩)] 20 (by simp))) (by simp [Value.oneCell']) (by unfold maxLen; omega) (by omega) (by have := HBS.out; simp; omega) ?_; intro v3 y3 hO5 hg3; have HO5 := Lib.hid hO5; have HG3 := Lib.hid hg3; clear hO5 hg3)
          go_roundw
          case rel =>
            refine ⟨m + 16, by have := HLT.out; omega, by have := HM16.out; omega, by go_num, ?_, ?_⟩
            · have := HO5.out
              rw [HLINE.out.1, HLINE.out.2] at this
              rw [HE.out] at this
              exact this
            · exact (HB3.out.alloc HBS.out _).grown HG3.out (by have := HBS.out; simp; omega) (fun k hk => (HO2.out.lt k hk).1)
          case measure => have := HLT.out; simp only [intOf]; omega
    · have hmn : min m p.data.length = p.data.length := by omega
      rw [hmn] at HO hpl
      have hO3 := HO.out
      rw [← prtC_zero] at hO3 hpl
      have HO3 := Lib.hid hO3
      have HPL := Lib.hid hpl
      have c0 := (KB0.out _ hb).cell (k := 0) rfl
      have nd : decide ((m : Int) < (p.data.length : Int)) = false := decide_eq_false (by omega)
      have nd2 : decide (m < p.data.length) = false := decide_eq_false (by omega)
      clear hmn hpl hO3 ho hb hm hm16 hlt
      go_wp2_with fail
      clear c0 c2 nd nd2
      go_loopw [3, 54] (fun v q wr2 => ∃ k : Nat, k ≤ p.code.length ∧ q = .int .i64 k ∧ wr2.ownsRow (w.heap.size + 1) 20 1 v (pl + 2 * k) (partVals (prtC p k)) ∧ Below (w.heap.size + 1) W wr2) (fun _ q _ => p.code.length - (intOf q).toNat)
      case atStart => exact ⟨0, Nat.zero_le _, rfl, HO3.out, HB.out⟩
      case round =>
        obtain ⟨k, hk, rfl, ho2, hb2⟩ := hrel
        have HO2 := Lib.hid ho2
        have HB3 := Lib.hid hb2
        obtain ⟨A4, cc4, rfl⟩ := (Row.of_own ho2).form
        have hbs : w.heap.size + 1 ≤ wr.heap.size := by have := hb2.size; rw [HWS.out] at this; exact this
        have HBS := Lib.hid hbs
        by_cases hkl : k < p.code.length
        · have hpc := (KP0.out _ hb2).code
          obtain ⟨g, o, rfl, hg, _⟩ := hpc.at_ (by omega)
          obtain ⟨I, hIe⟩ : ∃ I, I = p.code.getD k ins0 := ⟨_, rfl⟩
          have hIg : p.code[k]? = some I := by rw [hIe, List.getD_eq_getElem?_getD, List.getElem?_eq_getElem hkl]; rfl
          obtain ⟨x0, x1, x2, x3, x4⟩ := Row.ins (l := p.code) hpc (k := k) hIg
          have HDP : Hid (partVals (prtC p k) ++ [.iface 38 (.agg #[.int .i64 I.op, .int .i64 I.d, .int .i64 I.a, .int .i64 I.b, .int .i64 I.imm]), .iface 9 (.string ⟨#[10]⟩)] = partVals (prtC p (k + 1))) := Lib.hid (by rw [prtC_succ, hIe]; simp [partVals, codP]; exact ⟨rfl, rfl⟩)
          have hws2 : (wr.alloc (.cells #[.int .i64 I.op, .int .i64 I.d, .int .i64 I.a, .int .i64 I.b, .int .i64 I.imm] 38)).heap.size = wr.heap.size + 1 := by simp
          have ol := own_lit (wr.alloc (.cells #[.int .i64 I.op, .int .i64 I.d, .int .i64 I.a, .int .i64 I.b, .int .i64 I.imm] 38)) [.iface 38 (.agg #[.int .i64 I.op, .int .i64 I.d, .int .i64 I.a, .int .i64 I.b, .int .i64 I.imm]), .iface 9 (.string ⟨#[10]⟩)] 20 (by simp)
          rw [hws2] at ol
          have OL := Lib.hid (Row.of_own ol)
          have HWS2 := Lib.hid hws2
          have HKL := Lib.hid hkl
          have j0 : (0 : Int) ≤ k := by omega
          have j1 : (k : Int) < p.code.length := by omega
          have nk : decide ((k : Int) < (p.code.length : Int)) = true := decide_eq_true j1
          have h66 := H6.out
          clear hpc hIe hIg hg ol ho2 hb2 hk hkl hbs hws2
          go_wp2_with (at_builtin; refine wpList_append_row _ rfl (.tmp 58) (.tmp 62) 131 rfl (w.heap.size + 1) 20 i0 _ 1 16 Tryd.underlying131 HI.out HZ0.out HZ1.out HZ2.out rfl (by omega) (.slice A4 (pl + 2 * k) cc4) (pl + 2 * k) _ rfl ((HO2.out.alloc _).alloc _) _ (.slice (some ⟨wr.heap.size + 1, 0, none⟩) 2 2) 2 _ rfl OL.out (by simp [Value.oneCell']) (by unfold maxLen; omega) (by omega) (by have := HBS.out; simp; omega) ?_; intro v3 y3 hO5 hg3; have HO5 := Lib.hid hO5; have HG3 := Lib.hid hg3; clear hO5 hg3)
          go_roundw
          case rel =>
            refine ⟨k + 1, HKL.out, by go_num, ?_, ?_⟩
            · have := HO5.out
              rw [HDP.out] at this
              exact this
            · exact ((HB3.out.alloc HBS.out _).alloc (by have := HBS.out; rw [HWS2.out]; omega) _).grown HG3.out (by have := HBS.out; simp; omega) (fun k hk => (HO2.out.lt k hk).1)
          case measure => have := HKL.out; simp only [intOf]; omega
        · have hkk : k = p.code.length := by omega
          subst hkk
          have nk : decide ((p.code.length : Int) < (p.code.length : Int)) = false := decide_eq_false (by omega)
          have nk2 : decide (p.code.length < p.code.length) = false := decide_eq_false (by omega)
          have hlen : pl + 2 * p.code.length = (progParts p).length := by
            have : ∀ i, (prtC p i).length = (prtC p 0).length + 2 * i := by
              intro i
              induction i with
              | zero => rfl
              | succ i ih =>
                rw [prtC_succ, List.length_append, ih]
                have : (codP p i).length = 2 := rfl
                omega
            have h2 := this p.code.length
            rw [HPL.out] at h2
            exact h2.symm
          have HLEN := Lib.hid hlen
          clear hlen ho2 hb2 hk hkl hbs
          go_wp2_with fail
          go_ret
          refine ⟨_, rfl, ?_, HBW.out.trans (HB3.out.mono (Nat.le_succ _))⟩
          have := own_base HO2.out (Nat.le_succ w.heap.size)
          rw [HLEN.out] at this ⊢
          exact this
end Go.Proofs.YtfdegdbknponkaaDoor.Words

/- Contract of show.Text. -/
namespace Go.Proofs.YtfdegdbknponkaaDoor.Words
set_option maxRecDepth 100000
open Go.RowKit Go.Shelf Go.Lib
set_option linter.unusedVariables false
set_option linter.unusedSimpArgs false

abbrev progVal (A D : Option Addr) (c d : Nat) (p : Prog) : Value := .agg #[.slice A p.code.length c, .int .i64 p.size, .slice D p.data.length d]
def progPs (p : Prog) : List Part := if p.right = true then progParts p else []
set_option maxHeartbeats 4000000 in
theorem parts_prog (A D : Option Addr) (c d : Nat) (p : Prog) (w : World) (hP : ProgV w w.heap.size (.slice A p.code.length c) (.slice D p.data.length d) p) (hf : p.Fits) (h56 : p.right = true → p.data.length ≤ 1000 ∧ p.code.length ≤ 1000) :
    PartsAt w (.iface 26 (progVal A D c d p)) (progPs p) := by
  have a1 := as_pr (progVal A D c d p)
  have a2 := as_pi (progVal A D c d p)
  have a3 := as_pc (progVal A D c d p)
  have a4 := as_pp (progVal A D c d p)
  unfold progVal at a1 a2 a3 a4
  unfold zIns at a2
  unfold zCell at a3
  unfold PartsAt progVal
  obtain ⟨ps, hps⟩ : ∃ ps, progPs p = ps := ⟨_, rfl⟩
  rw [hps]
  have HPS := Lib.hid hps
  clear hps
  obtain ⟨u1, u2⟩ := hP.data.cap
  have hb1 := (Below.refl w.heap.size w).alloc (Nat.le_refl _) (.cells #[.int .i64 0, .int .i64 0, .int .i64 0, .int .i64 0, .int .i64 0] 38)
  have hb2 := hb1.alloc (by simp) (.cells #[.int .i64 0, .int .i64 0, .int .i64 0, .int .i64 0, .int .i64 0, .int .i64 0, .int .i64 0, .int .i64 0, .int .i64 0] 49)
  have hb3 := hb2.alloc (by simp; omega) (.cells #[.slice A p.code.length c, .int .i64 p.size, .slice D p.data.length d] 26)
  have hbx := Box.new ((w.alloc (.cells #[.int .i64 0, .int .i64 0, .int .i64 0, .int .i64 0, .int .i64 0] 38)).alloc (.cells #[.int .i64 0, .int .i64 0, .int .i64 0, .int .i64 0, .int .i64 0, .int .i64 0, .int .i64 0, .int .i64 0, .int .i64 0] 49)) [.slice A p.code.length c, .int .i64 p.size, .slice D p.data.length d] 26
  rw [show ((w.alloc (.cells #[.int .i64 0, .int .i64 0, .int .i64 0, .int .i64 0, .int .i64 0] 38)).alloc (.cells #[.int .i64 0, .int .i64 0, .int .i64 0, .int .i64 0, .int .i64 0, .int .i64 0, .int .i64 0, .int .i64 0, .int .i64 0] 49)).heap.size = w.heap.size + 2 by simp] at hbx
  have HB := Lib.hid hb3
  have HP := Lib.hid ((hP.below hb3).more hb3.size)
  have HX := Lib.hid hbx
  have hR := Lib.hid (fun (y : World) (h : ProgV y y.heap.size (.slice A p.code.length c) (.slice D p.data.length d) p) => imgRight_any A c p.size D p.data.length d p.code y h.code u1 u2)
  have hQ := Lib.hid (fun (y : World) (h : ProgV y y.heap.size (.slice A p.code.length c) (.slice D p.data.length d) p) (hr : p.right = true) => partsOfProg_any A D c d p y h hf (h56 hr).1 (h56 hr).2)
  have hgo : rightZ p.code p.size p.data.length = p.right := rfl
  rw [hgo] at hR
  clear hb1 hb2 hb3 hbx hP hgo hf h56 u1 u2
  go_enter Tryd.func83, Tryd.ntmps83
  go_wp2_with fail
  change Hid (Box (((w.alloc (.cells #[.int .i64 0, .int .i64 0, .int .i64 0, .int .i64 0, .int .i64 0] 38)).alloc (.cells #[.int .i64 0, .int .i64 0, .int .i64 0, .int .i64 0, .int .i64 0, .int .i64 0, .int .i64 0, .int .i64 0, .int .i64 0] 49)).alloc (.cells #[.slice A p.code.length c, .int .i64 p.size, .slice D p.data.length d] 26)) (w.heap.size + 2) _) at HX
  generalize (((w.alloc (.cells #[.int .i64 0, .int .i64 0, .int .i64 0, .int .i64 0, .int .i64 0] 38)).alloc (.cells #[.int .i64 0, .int .i64 0, .int .i64 0, .int .i64 0, .int .i64 0, .int .i64 0, .int .i64 0, .int .i64 0, .int .i64 0] 49)).alloc (.cells #[.slice A p.code.length c, .int .i64 p.size, .slice D p.data.length d] 26)) = W at *
  refine (hR.out _ HP.out).mono ?_
  rintro e w1 ⟨rfl, hb4⟩
  have hx1 := HX.out.below hb4 HX.out.lt
  have d0 := hx1.cell (k := 0) rfl
  have d1 := hx1.cell (k := 1) rfl
  have d2 := hx1.cell (k := 2) rfl
  have HB1 := Lib.hid (HB.out.trans (hb4.mono HB.out.size))
  have HP1 := Lib.hid ((HP.out.below hb4).more hb4.size)
  clear hb4 hx1
  cases hr : p.right
  · obtain rfl : [] = ps := by rw [← HPS.out]; unfold progPs; rw [hr]; rfl
    go_wp2_with fail
    go_ret
    exact ⟨_, rfl, World.ownsRow_nil _ _ _ _, HB1.out⟩
  · obtain rfl : progParts p = ps := by rw [← HPS.out]; unfold progPs; rw [hr]; rfl
    go_wp2_with fail
    refine (hQ.out _ HP1.out hr).mono ?_
    rintro e w2 ⟨v, rfl, ho, hb5⟩
    have HO := Lib.hid (own_base ho HB1.out.size)
    have HB2 := Lib.hid (HB1.out.trans (hb5.mono HB1.out.size))
    clear ho hb5 d0 d1 d2
    go_wp2_with fail
    go_ret
    exact ⟨v, rfl, HO.out, HB2.out⟩

set_option maxHeartbeats 1000000 in
theorem showText_any (A D : Option Addr) (c d : Nat) (p : Prog) (w : World) (hT : TabsS w) (hP : ProgV w w.heap.size (.slice A p.code.length c) (.slice D p.data.length d) p) (hf : p.Fits) (h56 : p.right = true → p.data.length ≤ 1000 ∧ p.code.length ≤ 1000) :
    Calls Tryd.prog 24 #[.agg #[.slice A p.code.length c, .int .i64 p.size, .slice D p.data.length d]] w fun e w' => e = .returned (.string (txt (textS p))) ∧ Below w.heap.size w w' := by
  have hb0 := (Below.refl w.heap.size w).alloc (Nat.le_refl _) (.cells #[.slice A p.code.length c, .int .i64 p.size, .slice D p.data.length d] 26)
  have HB0 := Lib.hid hb0
  have HT := Lib.hid (hT.below hb0)
  have hP0 := (hP.below hb0).more hb0.size
  obtain ⟨o, ho1, ho2⟩ : ∃ o : Option (List UInt8), o.getD [] = textS p ∧ ∀ X b vn vt, Below (w.alloc (.cells #[.slice A p.code.length c, .int .i64 p.size, .slice D p.data.length d] 26)).heap.size (w.alloc (.cells #[.slice A p.code.length c, .int .i64 p.size, .slice D p.data.length d] 26)) X → Wr X b vn vt [] → TabsSB b X →
      WriteAt X b vn vt [] (.iface 26 (progVal A D c d p)) o := by
    unfold textS
    cases hr : p.right
    · refine ⟨none, rfl, fun X b vn vt hX hw hTB => write_nothing_at (deep_prog _) ?_ hw⟩
      have := parts_prog A D c d p X ((hP0.below hX).more hX.size) hf h56
      unfold progPs at this
      rw [hr, if_neg (by decide)] at this
      exact this
    · refine ⟨some (showT p), by simp, fun X b vn vt hX hw hTB => ?_⟩
      have := parts_prog A D c d p X ((hP0.below hX).more hX.size) hf h56
      unfold progPs at this
      rw [hr, if_pos rfl] at this
      rw [← progParts_txt hr]
      obtain ⟨h5, h6⟩ := h56 hr
      obtain ⟨l1, l2⟩ := progParts_len p
      have hok := progParts_ok hr hf.2.2
      refine write_parts_at (B := 0) (deep_prog _) this (by omega) (by omega) hok (fun q hq => ?_) hw (Nat.le_refl _) hTB
      have hq' := hok q hq
      generalize hL : 60 * (progParts p).length = L at *
      have hL2 : L ≤ 400000 := by omega
      cases q with
      | s t => exact write_str (by omega) t (by have : t.length ≤ 60 := hq'; omega)
      | n k => exact write_int (by omega) k ⟨hq'.1, hq'.2.1⟩ (by have := hq'.2.2; omega)
      | op k => exact write_op (by omega) k hq'
      | reg k => exact write_reg (by omega) k hq'
      | ins j => exact write_ins (by omega) j hq'
  have cS := Lib.hid (shown_at ho2 (hT.below hb0))
  rw [ho1] at cS
  clear hT hb0 ho1 ho2 hP hP0 hf h56
  unfold progVal at cS
  go_enter Tryd.func24, Tryd.ntmps24
  go_wp2_with fail
  refine cS.out.mono ?_
  rintro e w1 ⟨rfl, hb1⟩
  have HB1 := Lib.hid (HB0.out.trans (hb1.mono HB0.out.size))
  clear hb1
  go_wp2_with fail
  go_ret
  exact ⟨rfl, HB1.out⟩
end Go.Proofs.YtfdegdbknponkaaDoor.Words

/- Contracts of the laws' own helpers of chapter 4 that call nothing of the program: num, Few. -/
namespace Go.Proofs.YtfdegdbknponkaaDoor.Words
set_option maxRecDepth 100000
open Go.RowKit
set_option linter.unusedVariables false

/-- Is a program short enough? -/
def fewB (n m : Nat) : Bool := decide (n ≤ 200 ∧ m ≤ 500)
set_option maxHeartbeats 400000 in
theorem few_any (A A' : Option Addr) (n c m c' : Nat) (sz : Int) (w : World) (hn : n ≤ 9223372036854775807) (hm : m ≤ 9223372036854775807) :
    Calls Tryd.prog 18 #[.agg #[.slice A n c, .int .i64 sz, .slice A' m c']] w fun e w' => e = .returned (.bool (fewB n m)) ∧ Below w.heap.size w w' := by
  by_cases h1 : n ≤ 200
  · by_cases h2 : m ≤ 500
    · have hr : fewB n m = true := decide_eq_true ⟨h1, h2⟩
      rw [hr]
      go_enter Tryd.func18, Tryd.ntmps18
      go_wp2_with fail
      go_ret
      exact ⟨by simp <;> omega, (Below.refl _ _).alloc (Nat.le_refl _) _⟩
    · have hr : fewB n m = false := decide_eq_false (fun h => h2 h.2)
      rw [hr]
      go_enter Tryd.func18, Tryd.ntmps18
      go_wp2_with fail
      go_ret
      exact ⟨by simp <;> omega, (Below.refl _ _).alloc (Nat.le_refl _) _⟩
  · have hr : fewB n m = false := decide_eq_false (fun h => h1 h.1)
    rw [hr]
    go_enter Tryd.func18, Tryd.ntmps18
    go_wp2_with fail
    go_ret
    exact ⟨by simp <;> omega, (Below.refl _ _).alloc (Nat.le_refl _) _⟩
end Go.Proofs.YtfdegdbknponkaaDoor.Words

/- An argument that is a program (a struct of a slice of instructions, an int and a slice of bytes, by value): its plain data. -/
namespace Go.Proofs.YtfdegdbknponkaaDoor.Words
set_option maxRecDepth 100000
open Go.ChangeShapes Go.WideShapes Go.ChangeAt Go.RowKit

instance : Inhabited Ins := ⟨⟨0, 0, 0, 0, 0⟩⟩

section
variable {H : Type} {enc : TypeId × Value → H} {w : World} {base : Nat} {spare : Nat → Bool} {held : Bool}

theorem range_map_get {α : Type} (f : Nat → α) (n k : Nat) (h : k < n) : ((List.range n).map f)[k]? = some (f k) := by
  rw [List.getElem?_map, List.getElem?_range h]; rfl

/-- A slice of instructions. -/
theorem open_code {t : TypeId} (ht : Tryd.prog.underlying t = some (.slice 38)) {fuel : Nat} {cs : List Value} {x : DataW H × List MemPlace} (h : DataW.trod enc Tryd.prog w base spare held fuel t cs = some x) :
    ∃ (A : Option Addr) (c : Nat) (l : List Ins), cs = [.slice A l.length c] ∧ Row w w.heap.size 5 (.slice A l.length c) l.length (codeCells l) ∧ ∀ i ∈ l, i.Fits := by
  have hC : Tryd.prog.cellsOf 38 = 5 := by kernel_rfl
  rcases Deep.open_slice ht h with ⟨rfl, _⟩ | ⟨a, len, cap, m, n, D, Pl, rfl, hb, hl, hm, hmm, _, hx⟩
  · exact ⟨none, 0, [], rfl, Row.nil _ _ _, by simp⟩
  rw [hC] at hx
  have hlm : len ≤ m := by rw [hmm]; split <;> omega
  obtain ⟨f, hf⟩ := Deep.choose_lt (α := Ins) (n := len) (p := fun i v => v.Fits ∧ w.cells? base (a.add (i * 5)) 5 = some (insCells v)) (fun i hi => by
    obtain ⟨cs', h1, h2⟩ := hx i (by omega)
    obtain ⟨v, hv, rfl⟩ := ins_cells h2
    exact ⟨v, hv, h1⟩)
  have hlen : ((List.range len).map f).length = len := by simp
  refine ⟨some a, cap, (List.range len).map f, by rw [hlen], ?_, ?_⟩
  · rw [hlen]
    refine ⟨by rw [codeCells_length, hlen], some a, cap, rfl, hl, by simpa [maxLen] using hm, (fun h => by cases h), fun hn => ?_⟩
    have hcell : ∀ k j u, k < len → j < 5 → (insCells (f k))[j]? = some u → w.cell? (a.add (k * 5 + j)) = some u := by
      intro k j u hk hj hu
      have h1 := (hf k hk).2
      obtain ⟨_, h2, h3⟩ := World.cells?_some h1
      have := h3 j hj
      rwa [Deep.add_add, hu] at this
    have h00 := hcell 0 0 (.int .i64 (f 0).op) (by omega) (by omega) rfl
    obtain ⟨b, off, spot⟩ := a
    have hs : spot = none := by simpa [Addr.add] using World.cell?_spot h00
    subst hs
    refine ⟨b, off, rfl, ?_, fun j u hu => ?_⟩
    · rw [add_spot] at h00
      unfold World.cell? at h00
      rcases hh : w.heap[b]? with _ | o
      · simp [hh] at h00
      · exact (Array.getElem?_eq_some_iff.1 hh).1
    · have hj : j < len * 5 := by
        rw [List.getElem?_eq_some_iff] at hu
        obtain ⟨h, _⟩ := hu
        rw [codeCells_length, hlen] at h; exact h
      have hk : j / 5 < len := by omega
      have hr : j % 5 < 5 := by omega
      have e : j / 5 * 5 + j % 5 = j := by omega
      have h5 := codeCells_at ((List.range len).map f) (j / 5) (f (j / 5)) (range_map_get f len _ hk) (j % 5) hr
      rw [e, hu] at h5
      have := hcell (j / 5) (j % 5) u hk hr h5.symm
      rwa [e, add_spot] at this
  · intro i hi
    obtain ⟨k, hk, rfl⟩ := List.mem_map.1 hi
    exact (hf k (List.mem_range.1 hk)).1

/-- A slice of bytes. -/
theorem open_bytes {t : TypeId} (ht : Tryd.prog.underlying t = some (.slice 5)) {fuel : Nat} {cs : List Value} {x : DataW H × List MemPlace} (h : DataW.trod enc Tryd.prog w base (fun _ => true) held fuel t cs = some x) :
    ∃ (A : Option Addr) (c : Nat) (l : List Int), cs = [.slice A l.length c] ∧ Row w w.heap.size 1 (.slice A l.length c) l.length (l.map (Value.int .u8)) ∧ ∀ b ∈ l, 0 ≤ b ∧ b ≤ 255 := by
  rcases open_ints ht Tryd.underlying5 (by kernel_rfl) h with ⟨rfl, _⟩ | ⟨x, l, c, zs, rfl, _, hl, hm, hz, _, hcell, hwz⟩
  · exact ⟨none, 0, [], rfl, Row.nil _ _ _, by simp⟩
  · have hzl : zs.length = c := by simpa using hz
    have hlen : (zs.take l).length = l := by rw [List.length_take]; omega
    refine ⟨some x, c, zs.take l, by rw [hlen], ?_, fun b hb => bounds_u8 (hwz b (List.mem_of_mem_take hb))⟩
    rw [hlen]
    exact Row.of_ints hl hm hzl hcell

theorem open_prog {r : Reach} {b0 : Nat} {v : Value} {d : DataW H} {ps : List MemPlace} (hval : Value.okWide Tryd.prog w r b0 26 v) (hd : DataW.Trod enc Tryd.prog w base (fun _ => true) held 26 v d ps) :
    ∃ (A : Option Addr) (c : Nat) (A' : Option Addr) (c' : Nat) (p : Prog), p.Fits ∧ v = .agg #[.slice A p.code.length c, .int .i64 p.size, .slice A' p.data.length c'] ∧ ProgV w w.heap.size (.slice A p.code.length c) (.slice A' p.data.length c') p := by
  obtain ⟨cs, rfl, _⟩ := okWide_struct Tryd.underlying26 hval
  obtain ⟨fuel, hf⟩ := hd
  obtain ⟨xs, n, _, _, hlen, hxl, hg⟩ := DataW.trod_struct Tryd.underlying26 hf
  have hC : Tryd.prog.cellsOf 26 = 3 := by kernel_rfl
  have k0 : Tryd.prog.cellsOf 23 = 1 := by kernel_rfl
  have k1 : Tryd.prog.cellsOf 3 = 1 := by kernel_rfl
  have k2 : Tryd.prog.cellsOf 24 = 1 := by kernel_rfl
  rw [hC] at hlen
  have hxl' : xs.length = 3 := hxl
  obtain ⟨l⟩ := cs
  have hl : (Value.agg ⟨l⟩).cells.toList = l := by simp [Value.cells]
  rw [hl] at hlen hg
  match l, hlen with
  | [c0, c1, c2], _ =>
    have g0 : DataW.trod enc Tryd.prog w base (fun _ => true) held n 23 [c0] = some xs[0] := by
      have := hg 0 _ rfl
      rw [List.getElem?_eq_getElem (by omega)] at this
      simpa [k0] using this
    have g1 : DataW.trod enc Tryd.prog w base (fun _ => true) held n 3 [c1] = some xs[1] := by
      have := hg 1 _ rfl
      rw [List.getElem?_eq_getElem (by omega)] at this
      simpa [k1] using this
    have g2 : DataW.trod enc Tryd.prog w base (fun _ => true) held n 24 [c2] = some xs[2] := by
      have := hg 2 _ rfl
      rw [List.getElem?_eq_getElem (by omega)] at this
      simpa [k2] using this
    obtain ⟨A, c, code, e0, h0, f0⟩ := open_code Tryd.underlying23 g0
    obtain ⟨sz, e1, _, f1⟩ := DataW.trod_int Tryd.underlying3 g1
    obtain ⟨A', c', data, e2, h2, f2⟩ := open_bytes Tryd.underlying24 g2
    simp only [List.cons.injEq, and_true] at e0 e1 e2
    subst e0 e1 e2
    exact ⟨A, c, A', c', ⟨code, sz, data⟩, ⟨f0, bounds_i64 f1, f2⟩, rfl, ⟨h0, h2⟩⟩
end
end Go.Proofs.YtfdegdbknponkaaDoor.Words

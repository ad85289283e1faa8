/- The texts of AsmBlanks, and their programs. Plain mathematics. -/
import Derived.Test.YtfdegdbknponkaaDoorG10
import Derived.Test.YtfdegdbknponkaaDoorG05
namespace Go.Proofs.YtfdegdbknponkaaDoor.Words
set_option maxRecDepth 100000
set_option linter.unusedVariables false
set_option linter.unusedSimpArgs false
open Go.Lib

def cntK (l : List PartK) : Nat := (l.filter (fun x => decide (x.kind = 2))).length
theorem cntK_part (l : List PartZ) : cntK (l.map partK) = nIns l := by
  unfold cntK nIns
  rw [List.filter_map, List.length_map]
  rfl
/-- How many instructions a text of good lines has. -/
theorem few_lines {l : List UInt8} {ps : List Pc} (hl : l = pcText ps) (hg : goodP ps) (hn : l.length ≤ 20000) {z : List Key} (hz : z = [] ∨ z = [k4]) {Ls : List Ln} (ho : ∀ L ∈ Ls, LnOk L)
    (hk : lexK false ps = textKeys z Ls) {N : Nat} (hN : cntK (Ls.flatMap lnParts) ≤ N) : ∀ t, lexZ l = .toks t → (textT t).1 = true → nIns (textT t).2.2 ≤ N := by
  subst hl
  intro t ht _
  obtain ⟨T, t1, t2⟩ := lexZ_pcs hg hn
  obtain ⟨xs, x1, x2⟩ := textF_keys hz Ls T.length T ho (Nat.le_refl _) (t1.trans hk)
  have hT : textT T = (true, [], xs) := x2
  have e : T = t := by rw [t2] at ht; injection ht
  subst e
  rw [hT, ← cntK_part, x1]
  exact hN
theorem few_blk {ps : List Pc} {Ls : List Ln} (h : Blk ps Ls) (hn : (pcText ps).length ≤ 20000) {N : Nat} (hN : cntK (Ls.flatMap lnParts) ≤ N) : ∀ t, lexZ (pcText ps) = .toks t → (textT t).1 = true → nIns (textT t).2.2 ≤ N :=
  few_lines rfl h.good hn (.inr rfl) h.ok (h.keys.trans (textKeys_flat Ls).symm) hN

def blaD (k0 : Nat) (b : Int) : List Pc := bytePcs1 b ++ endPcs k0
def blaC (p : Prog) (kk : Nat → Nat) (j : Nat) : List Pc := showP (p.code.getD j ins0) ++ endPcs (kk j)
def blaH (p : Prog) : List Pc := sizePcs p.size ++ endPcs 0
def blaPcs (p : Prog) (k0 : Nat) (kk : Nat → Nat) : List Pc := blaH p ++ (p.data.flatMap (blaD k0) ++ (List.range' 0 p.code.length).flatMap (blaC p kk))
def blaLns (p : Prog) : List Ln := [⟨[], .size p.size⟩] ++ (p.data.flatMap (fun b => [⟨[], .bytes b []⟩]) ++ (List.range' 0 p.code.length).flatMap (fun j => [⟨[], .ins (p.code.getD j ins0) []⟩]))
theorem code_getD {p : Prog} {P : Ins → Prop} (h : ∀ i ∈ p.code, P i) {j : Nat} (hj : j < p.code.length) : P (p.code.getD j ins0) := by
  rw [List.getD_eq_getElem?_getD, List.getElem?_eq_getElem hj]
  exact h _ (List.getElem_mem hj)
theorem range_getD {α : Type} (l : List α) (d : α) : (List.range' 0 l.length).map (fun j => l.getD j d) = l := by
  apply List.ext_getElem?
  intro j
  rw [List.getElem?_map]
  by_cases hj : j < l.length
  · rw [List.getElem?_range' hj, List.getElem?_eq_getElem hj, Option.map_some, List.getD_eq_getElem?_getD, List.getElem?_eq_getElem (by omega)]
    simp
  · rw [List.getElem?_eq_none (by simpa using hj), List.getElem?_eq_none (by omega)]
    rfl
theorem bla_blk {p : Prog} (hr : p.right = true) (hd : ∀ b ∈ p.data, 0 ≤ b ∧ b ≤ 255) (k0 : Nat) (kk : Nat → Nat) : Blk (blaPcs p k0 kk) (blaLns p) := by
  obtain ⟨hs, ha, _⟩ := right_parts hr
  have hsz : 0 ≤ p.size ∧ p.size ≤ 65536 := by omega
  refine (blk_size (by omega) 0).append ((Blk.flat _ _ _ fun b hb => blk_byte1 (hd b hb) k0).append (Blk.flat _ _ _ fun j hj => ?_))
  have hj' : j < p.code.length := by simpa using hj
  exact blk_ins (code_getD (fun i hi => List.all_eq_true.1 ha i hi) hj') (kk j)
theorem bla_parts (p : Prog) : (blaLns p).flatMap lnParts = ⟨3, p.size, [], ins0, key0⟩ :: (p.data.map byteK ++ p.code.map insK) := by
  unfold blaLns
  rw [List.flatMap_append, List.flatMap_append]
  have e1 : ([⟨[], .size p.size⟩] : List Ln).flatMap lnParts = [⟨3, p.size, [], ins0, key0⟩] := rfl
  have e2 : ∀ l : List Int, (l.flatMap (fun b => ([⟨[], .bytes b []⟩] : List Ln))).flatMap lnParts = l.map byteK := by
    intro l
    induction l with
    | nil => rfl
    | cons b l ih => rw [List.flatMap_cons, List.flatMap_append, ih]; rfl
  have e3 : ∀ l : List Nat, (l.flatMap (fun j => ([⟨[], .ins (p.code.getD j ins0) []⟩] : List Ln))).flatMap lnParts = (l.map fun j => p.code.getD j ins0).map insK := by
    intro l
    induction l with
    | nil => rfl
    | cons b l ih => rw [List.flatMap_cons, List.flatMap_append, ih]; rfl
  rw [e1, e2, e3, range_getD]
  rfl
theorem cnt_prog (p : Prog) : cntK (⟨3, p.size, [], ins0, key0⟩ :: (p.data.map byteK ++ p.code.map insK)) = p.code.length := by
  unfold cntK
  rw [List.filter_cons_of_neg (by simp), List.filter_append]
  have e1 : (p.data.map byteK).filter (fun x => decide (x.kind = 2)) = [] := by
    rw [List.filter_eq_nil_iff]; intro x hx; obtain ⟨b, _, rfl⟩ := List.mem_map.1 hx; simp [byteK]
  have e2 : (p.code.map insK).filter (fun x => decide (x.kind = 2)) = p.code.map insK := by
    rw [List.filter_eq_self]; intro x hx; obtain ⟨b, _, rfl⟩ := List.mem_map.1 hx; simp [insK]
  rw [e1, e2, List.nil_append, List.length_map]
/-! ### the text, as it is written -/
def blaDT (k0 : Nat) (b : Int) : List UInt8 := byteN ++ [32] ++ decN b ++ pcText (endPcs k0)
def blaCT (p : Prog) (kk : Nat → Nat) (j : Nat) : List UInt8 := showI (p.code.getD j ins0) ++ pcText (endPcs (kk j))
def blaHT (p : Prog) : List UInt8 := sizeN ++ [32] ++ decN p.size ++ [10]
def blaUpD (p : Prog) (k0 i : Nat) : List UInt8 := blaHT p ++ (p.data.take i).flatMap (blaDT k0)
def blaUpC (p : Prog) (k0 : Nat) (kk : Nat → Nat) (i : Nat) : List UInt8 := blaUpD p k0 p.data.length ++ (List.range' 0 i).flatMap (blaCT p kk)
def blaText (p : Prog) (k0 : Nat) (kk : Nat → Nat) : List UInt8 := blaUpC p k0 kk p.code.length
theorem pcText_flatM {α : Type} (f : α → List Pc) : ∀ l : List α, pcText (l.flatMap f) = l.flatMap fun x => pcText (f x)
  | [] => rfl
  | x :: l => by rw [List.flatMap_cons, pcText_append, pcText_flatM f l]; rfl
theorem bla_text (p : Prog) (k0 : Nat) (kk : Nat → Nat) : pcText (blaPcs p k0 kk) = blaText p k0 kk := by
  unfold blaPcs blaText blaUpC blaUpD
  rw [pcText_append, pcText_append, pcText_flatM, pcText_flatM, List.take_length, List.append_assoc]
  have e1 : pcText (blaH p) = blaHT p := by simp [blaH, blaHT, pcText, Pc.text, sizePcs, endPcs]
  have e2 : (fun b => pcText (blaD k0 b)) = blaDT k0 := by
    funext b; unfold blaD blaDT; rw [pcText_append]; simp [bytePcs1, pcText, Pc.text]
  have e3 : (fun j => pcText (blaC p kk j)) = blaCT p kk := by
    funext j; unfold blaC blaCT; rw [pcText_append]; rfl
  rw [e1, e2, e3]
theorem blaUpD_zero (p : Prog) (k0 : Nat) : blaUpD p k0 0 = blaHT p := by simp [blaUpD]
theorem blaUpD_succ {p : Prog} {k0 i : Nat} (h : i < p.data.length) : blaUpD p k0 (i + 1) = blaUpD p k0 i ++ blaDT k0 (p.data.getD i 0) := by
  unfold blaUpD
  rw [List.take_add_one, List.flatMap_append, List.append_assoc, List.getD_eq_getElem?_getD, List.getElem?_eq_getElem h]
  simp
theorem blaUpC_zero (p : Prog) (k0 : Nat) (kk : Nat → Nat) : blaUpC p k0 kk 0 = blaUpD p k0 p.data.length := by simp [blaUpC]
theorem blaUpC_succ (p : Prog) (k0 : Nat) (kk : Nat → Nat) (i : Nat) : blaUpC p k0 kk (i + 1) = blaUpC p k0 kk i ++ blaCT p kk i := by
  unfold blaUpC
  rw [List.range'_concat, List.flatMap_append, List.append_assoc]
  simp
theorem endPcs_len (k : Nat) : (pcText (endPcs k)).length ≤ 12 := by
  match k with
  | 0 => decide
  | 1 => decide
  | 2 => decide
  | 3 => decide
  | n + 4 => show (pcText (endPcs 4)).length ≤ 12; decide
theorem blaDT_len {b : Int} (h : 0 ≤ b ∧ b ≤ 255) (k0 : Nat) : (blaDT k0 b).length ≤ 30 := by
  have := decN_len (n := b) (by omega)
  have := endPcs_len k0
  unfold blaDT
  simp only [List.length_append, List.length_cons, List.length_nil, show byteN.length = 4 from rfl]
  omega
theorem blaUpD_len {p : Prog} (hs : -17179869184 ≤ p.size ∧ p.size ≤ 17179869184) (hd : ∀ b ∈ p.data, 0 ≤ b ∧ b ≤ 255) (k0 : Nat) : ∀ i, i ≤ p.data.length → (blaUpD p k0 i).length ≤ 20 + 30 * i
  | 0, _ => by
    have := decN_len hs
    rw [blaUpD_zero]
    unfold blaHT
    simp only [List.length_append, List.length_cons, List.length_nil, show sizeN.length = 4 from rfl]
    omega
  | i + 1, h => by
    have := blaUpD_len hs hd k0 i (by omega)
    have hb := blaDT_len (b := p.data.getD i 0) (by
      rw [List.getD_eq_getElem?_getD, List.getElem?_eq_getElem (by omega)]
      exact hd _ (List.getElem_mem (by omega))) k0
    rw [blaUpD_succ (by omega), List.length_append]
    omega
theorem blaUpC_len {p : Prog} (hr : p.right = true) (hd : ∀ b ∈ p.data, 0 ≤ b ∧ b ≤ 255) (k0 : Nat) (kk : Nat → Nat) : ∀ i, i ≤ p.code.length → (blaUpC p k0 kk i).length ≤ 20 + 30 * p.data.length + 52 * i
  | 0, _ => by
    obtain ⟨hs, _, _⟩ := right_parts hr
    have hsz : 0 ≤ p.size ∧ p.size ≤ 65536 := by omega
    rw [blaUpC_zero]
    exact blaUpD_len (by omega) hd k0 _ (Nat.le_refl _)
  | i + 1, h => by
    have ih := blaUpC_len hr hd k0 kk i (by omega)
    obtain ⟨_, ha, _⟩ := right_parts hr
    have h1 := showI_len (code_getD (fun i hi => List.all_eq_true.1 ha i hi) (show i < p.code.length by omega))
    have h2 := endPcs_len (kk i)
    rw [blaUpC_succ, List.length_append]
    have e : (blaCT p kk i).length ≤ 52 := by unfold blaCT; rw [List.length_append]; omega
    omega
/-- The whole: what asm.Read is of it, and that it has few instructions. -/
theorem bla_asm {p : Prog} (hr : p.right = true) (hd : ∀ b ∈ p.data, 0 ≤ b ∧ b ≤ 255) (h5 : p.data.length ≤ 500) (h6 : p.code.length ≤ 60) (k0 : Nat) (kk : Nat → Nat) :
    asmZ (blaText p k0 kk) = .ok p ∧ (∀ t, lexZ (blaText p k0 kk) = .toks t → (textT t).1 = true → nIns (textT t).2.2 ≤ 8192) ∧ (blaText p k0 kk).length ≤ 20000 := by
  have hb := bla_blk hr hd k0 kk
  have hl : (blaText p k0 kk).length ≤ 20000 := by
    have := blaUpC_len hr hd k0 kk p.code.length (Nat.le_refl _)
    show (blaUpC p k0 kk p.code.length).length ≤ 20000
    omega
  rw [← bla_text] at hl ⊢
  refine ⟨?_, few_blk hb hl ?_, hl⟩
  · rw [asmZ_blk hb hl (q := p) (by rw [bla_parts]; exact lay_prog hr hd _), check_right hr]
  · rw [bla_parts, cnt_prog]; omega
end Go.Proofs.YtfdegdbknponkaaDoor.Words

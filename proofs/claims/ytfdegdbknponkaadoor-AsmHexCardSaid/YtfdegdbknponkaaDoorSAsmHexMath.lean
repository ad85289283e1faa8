/- The texts of AsmHex, and their programs. Plain mathematics. -/
import Derived.Test.YtfdegdbknponkaaDoorG01
import Derived.Test.YtfdegdbknponkaaDoorG08
namespace Go.Proofs.YtfdegdbknponkaaDoor.Words
set_option maxRecDepth 100000
set_option linter.unusedVariables false
set_option linter.unusedSimpArgs false
open Go.Lib

def hexIns (op : Int) (n : Nat) : Ins := ⟨op, 1, 2, 0, n⟩
abbrev haltI8 : Ins := ⟨41, 0, 0, 0, 0⟩
def hexPcs (op : Int) (n : Nat) (t : List UInt8) : List Pc := insPcs (hexIns op n) [] t ++ (.line :: insPcs haltI8 [] [])
theorem hex_right {op : Int} {n : Nat} (ho : 17 ≤ op ∧ op ≤ 21) (hn : n ≤ 8191) : rightB (hexIns op n) = true := by
  have hl := lowI_cases op
  rw [rightB_iff]
  unfold hexIns
  simp only
  rw [if_pos (by omega), if_pos (by omega), if_neg (by omega), if_pos (by omega)]
  refine ⟨by omega, by decide, by decide, by simp, by omega, by omega⟩
theorem hex_form {op : Int} (ho : 17 ≤ op ∧ op ≤ 21) : formZ op = 2 := by have := formZ_cases op; omega
theorem halt_right : rightB haltI8 = true := by decide
theorem hexPcs_text {op : Int} (ho : 17 ≤ op ∧ op ≤ 21) (n : Nat) (t : List UInt8) : pcText (hexPcs op n t) = nameN op ++ ([32, 114, 49, 44, 32, 114, 50, 44, 32] ++ (t ++ [10, 104, 97, 108, 116])) := by
  have hh : pcText (.line :: insPcs haltI8 [] []) = [10, 104, 97, 108, 116] := by decide +kernel
  have h1 : regN 1 = [114, 49] := by decide +kernel
  have h2 : regN 2 = [114, 50] := by decide +kernel
  have hi : pcText (insPcs (hexIns op n) [] t) = nameN op ++ ([32, 114, 49, 44, 32, 114, 50, 44, 32] ++ t) := by
    unfold insPcs hexIns
    simp only
    rw [hex_form ho, h1, h2]
    simp [pcText, Pc.text]
  unfold hexPcs
  rw [pcText_append, hi, hh]
  simp only [List.append_assoc]
theorem layK_cons (all pre xs : List PartK) (x : PartK) (p : Prog) : layK all pre (x :: xs) p =
    if x.kind = 1 then (if hasK x.name pre = true then none else layK all (pre ++ [x]) xs p)
    else if x.kind = 3 then layK all (pre ++ [x]) xs { p with size := x.num }
    else if x.kind = 4 then (if x.num < 0 ∨ 255 < x.num then none else layK all (pre ++ [x]) xs { p with data := p.data ++ [x.num] })
    else if x.kind = 2 then (match aimK all x p.code.length with
      | none => none
      | some i => if rightB i = true then layK all (pre ++ [x]) xs { p with code := p.code ++ [i] } else none)
    else layK all (pre ++ [x]) xs p := rfl
theorem layK_nil (all pre : List PartK) (p : Prog) : layK all pre [] p = some p := by unfold layK; rfl
/-- An instruction without a label is laid as it is. -/
theorem layK_ins (all pre xs : List PartK) {i : Ins} (hr : rightB i = true) (p : Prog) : layK all pre (⟨2, 0, [], i, key0⟩ :: xs) p = layK all (pre ++ [⟨2, 0, [], i, key0⟩]) xs { p with code := p.code ++ [i] } := by
  rw [layK_cons, if_neg (by simp), if_neg (by simp), if_neg (by simp), if_pos rfl]
  unfold aimK
  rw [if_neg (by simp)]
  simp only
  rw [if_pos hr]
theorem layK_size (all pre xs : List PartK) (n : Int) (p : Prog) : layK all pre (⟨3, n, [], ins0, key0⟩ :: xs) p = layK all (pre ++ [⟨3, n, [], ins0, key0⟩]) xs { p with size := n } := by
  rw [layK_cons, if_neg (by simp), if_pos rfl]
theorem layK_byte (all pre xs : List PartK) {n : Int} (hn : 0 ≤ n ∧ n ≤ 255) (p : Prog) : layK all pre (⟨4, n, [], ins0, key0⟩ :: xs) p = layK all (pre ++ [⟨4, n, [], ins0, key0⟩]) xs { p with data := p.data ++ [n] } := by
  rw [layK_cons, if_neg (by simp), if_neg (by simp), if_pos rfl, if_neg (by simp only; omega)]
theorem ins_ln {i : Ins} (hr : rightB i = true) : LnOk ⟨[], .ins i []⟩ := ⟨⟨hr, fun h => absurd rfl h⟩, by simp [lnKeys, labKeys, stmKeys]⟩
def hexProg (op : Int) (n : Nat) : Prog := ⟨[hexIns op n, haltI8], 0, []⟩
theorem hex_check {op : Int} {n : Nat} (ho : 17 ≤ op ∧ op ≤ 21) (hn : n ≤ 8191) : checkZ (hexProg op n) = .ok (hexProg op n) := by
  have hj : isJump (hexIns op n) = false := by
    cases h : isJump (hexIns op n)
    · rfl
    · have := (isJump_form _).1 h
      have h2 := hex_form ho
      simp only [hexIns] at this
      omega
  have hj2 : isJump haltI8 = false := by decide
  have ht : targetsOk 2 0 [hexIns op n, haltI8] = true := by simp [targetsOk, badTarget, hj, hj2]
  unfold checkZ hexProg rightZ
  simp only [List.length_cons, List.length_nil]
  rw [if_neg (by rw [ht]; decide), if_pos]
  rw [Bool.and_eq_true, Bool.and_eq_true]
  refine ⟨⟨by decide, ?_⟩, ht⟩
  simp [hex_right ho hn, halt_right]
theorem hex_asm {op : Int} {n : Nat} {t : List UInt8} (ho : 17 ≤ op ∧ op ≤ 21) (hn : n ≤ 8191) (ht : IsNum (n : Int) t) (hl : t.length ≤ 100) :
    asmZ (nameN op ++ ([32, 114, 49, 44, 32, 114, 50, 44, 32] ++ (t ++ [10, 104, 97, 108, 116]))) = .ok (hexProg op n) := by
  have hr := hex_right ho hn
  have hg1 := goodP_ins (t := []) (nt := t) hr ht (fun h => absurd rfl h)
  have hg2 : goodP (.line :: insPcs haltI8 [] []) := ⟨trivial, trivial, nameN_name (by decide), trivial, trivial⟩
  have hg : goodP (hexPcs op n t) := goodP_behind hg1 (ins_nohash _ _ _) hg2 rfl
  obtain ⟨k1, o1⟩ := lexK_ins (hexIns op n) [] t false
  obtain ⟨k2, _⟩ := lexK_ins haltI8 [] [] false
  have hk : lexK false (hexPcs op n t) = textKeys [] [⟨[], .ins (hexIns op n) []⟩, ⟨[], .ins haltI8 []⟩] := by
    unfold hexPcs
    rw [lexK_append, k1, o1]
    show _ ++ (if true = true then k4 :: lexK false (insPcs haltI8 [] []) else _) = _
    rw [if_pos rfl, k2]
    simp [textKeys, lnKeys, labKeys]
  have hlen : (pcText (hexPcs op n t)).length ≤ 20000 := by
    have := nameN_len (op := op) (by omega)
    rw [hexPcs_text ho]
    simp
    omega
  rw [← hexPcs_text ho n t, asmZ_lines rfl hg hlen (.inl rfl) (Ls := [⟨[], .ins (hexIns op n) []⟩, ⟨[], .ins haltI8 []⟩]) ?_ hk (q := hexProg op n) ?_, hex_check ho hn]
  · intro L hL
    simp only [List.mem_cons, List.not_mem_nil, or_false] at hL
    rcases hL with rfl | rfl
    · exact ins_ln hr
    · exact ins_ln halt_right
  · show layK _ [] [⟨2, 0, [], hexIns op n, key0⟩, ⟨2, 0, [], haltI8, key0⟩] _ = _
    rw [layK_ins _ _ _ hr, layK_ins _ _ _ halt_right, layK_nil]
    rfl
end Go.Proofs.YtfdegdbknponkaaDoor.Words

/- The texts of AsmLabels, and their programs. Plain mathematics. -/
import Derived.Test.YtfdegdbknponkaaDoorG10
namespace Go.Proofs.YtfdegdbknponkaaDoor.Words
set_option maxRecDepth 100000
set_option linter.unusedVariables false
set_option linter.unusedSimpArgs false
open Go.Lib

def hereN : List UInt8 := [104, 101, 114, 101]
def thereN : List UInt8 := [116, 104, 101, 114, 101]
theorem here_name : IsName hereN := isName_of (by decide +kernel)
theorem there_name : IsName thereN := isName_of (by decide +kernel)
abbrev haltL : Ins := ⟨41, 0, 0, 0, 0⟩
def labTgt (op : Int) : List UInt8 := if op = 40 then hereN else thereN
def labIns (op imm : Int) : Ins := if op = 40 then ⟨40, 0, 0, 0, imm⟩ else ⟨op, 0, 1, 2, imm⟩
theorem labTgt_name (op : Int) : IsName (labTgt op) := by unfold labTgt; split; exact here_name; exact there_name
theorem labTgt_ne (op : Int) : labTgt op ≠ [] := by unfold labTgt hereN thereN; split <;> simp
theorem lab_op (op imm : Int) : (labIns op imm).op = op := by
  unfold labIns; split
  · rename_i h; exact h.symm
  · rfl
theorem lab_imm (op imm : Int) : (labIns op imm).imm = imm := by unfold labIns; split <;> rfl
theorem lab_set (op imm : Int) : { labIns op 0 with imm := imm } = labIns op imm := by unfold labIns; split <;> rfl
theorem lab_right {op imm : Int} (ho : 34 ≤ op ∧ op ≤ 40) (hi : -100 ≤ imm ∧ imm ≤ 100) : rightB (labIns op imm) = true := by
  have hl := lowI_cases op
  unfold labIns
  split
  · rw [rightB_iff]
    simp only
    simp [lowI, highI]
    omega
  · rw [rightB_iff]
    simp only
    rw [if_neg (by omega), if_pos (by omega), if_pos (by omega), if_pos (by omega)]
    refine ⟨by omega, by simp, by decide, by decide, by omega, by omega⟩
theorem halt_rightL : rightB haltL = true := by decide
def labStm (b : Bool) (op : Int) : Stm := if b = true then .ins (labIns op 0) (labTgt op) else .ins haltL []
def labHead (b : Bool) : List Pc := if b = true then [.name hereN, .sign 58, SP, .line, SP, .name thereN, .sign 58] else []
def labEnd (b : Bool) (op : Int) : List Pc := if b = true then (if op = 40 then [.line] else [SP, .hash [32, 120], .line]) else [.line, .line]
def labCore (b : Bool) (op : Int) : List Pc := if b = true then insPcs (labIns op 0) (labTgt op) [48] else insPcs haltL [] []
def labPcs (c b : Bool) (op : Int) : List Pc := labHead c ++ ([SP] ++ (labCore b op ++ labEnd b op))
def labLns (c b : Bool) (op : Int) : List Ln := (if c = true then [⟨[hereN], .none⟩] else []) ++ [⟨if c = true then [thereN] else [], labStm b op⟩]
theorem zero_num : IsNum 0 [48] := by
  have := decN_num (n := 0) (by omega)
  exact this
theorem labStm_ok {b : Bool} {op : Int} (ho : 34 ≤ op ∧ op ≤ 40) : StmOk (labStm b op) := by
  unfold labStm
  split
  · refine ⟨lab_right ho (by omega), fun _ => ⟨?_, lab_imm _ _⟩⟩
    rw [lab_op]
    have := formZ_cases op
    omega
  · exact ⟨halt_rightL, fun h => absurd rfl h⟩
theorem labStm_ne {b : Bool} {op : Int} : stmKeys (labStm b op) ≠ [] := by unfold labStm; split <;> simp [stmKeys]
theorem lab_end (b : Bool) (op : Int) : goodP (labEnd b op) ∧ softN (labEnd b op) = true ∧ lexK true (labEnd b op) = [k4] ∧ openK true (labEnd b op) = false ∧ (labEnd b op).getLast? = some .line := by
  unfold labEnd
  split
  · split
    · exact ⟨⟨trivial, trivial, trivial⟩, rfl, rfl, rfl, rfl⟩
    · exact ⟨⟨.inl rfl, trivial, by show ∀ c ∈ ([32, 120] : List UInt8), c.toNat < 128 ∧ c ≠ 10; decide, trivial, trivial, trivial, trivial⟩, rfl, rfl, rfl, rfl⟩
  · exact ⟨⟨trivial, trivial, trivial, trivial, trivial⟩, rfl, rfl, rfl, rfl⟩
theorem lab_core (b : Bool) {op : Int} (ho : 34 ≤ op ∧ op ≤ 40) (o : Bool) : goodP (labCore b op) ∧ (∀ p ∈ labCore b op, isHash p = false) ∧ lexK o (labCore b op) = stmKeys (labStm b op) ∧ openK o (labCore b op) = true := by
  unfold labCore labStm
  split
  · obtain ⟨k1, o1⟩ := lexK_ins (labIns op 0) (labTgt op) [48] o
    exact ⟨goodP_ins (lab_right ho (by omega)) (by rw [lab_imm]; exact zero_num) (fun _ => labTgt_name op), ins_nohash _ _ _, k1, o1⟩
  · obtain ⟨k1, o1⟩ := lexK_ins haltL [] [] o
    have hg : goodP (insPcs haltL [] []) := ⟨nameN_name (by decide), trivial, trivial⟩
    exact ⟨hg, ins_nohash _ _ _, k1, o1⟩
theorem lab_body (b : Bool) {op : Int} (ho : 34 ≤ op ∧ op ≤ 40) (o : Bool) : goodP ([SP] ++ (labCore b op ++ labEnd b op)) ∧ lexK o ([SP] ++ (labCore b op ++ labEnd b op)) = stmKeys (labStm b op) ++ [k4] ∧ openK o ([SP] ++ (labCore b op ++ labEnd b op)) = false ∧
    ([SP] ++ (labCore b op ++ labEnd b op)).getLast? = some .line := by
  obtain ⟨e1, e2, e3, e4, e5⟩ := lab_end b op
  obtain ⟨c1, c2, c3, c4⟩ := lab_core b ho o
  have hne : labEnd b op ≠ [] := by intro h; rw [h] at e5; cases e5
  have hg := goodP_behind c1 c2 e1 e2
  refine ⟨⟨.inl rfl, ?_, hg⟩, ?_, ?_, ?_⟩
  · show nextP SP (labCore b op ++ labEnd b op)
    trivial
  · show lexK o (labCore b op ++ labEnd b op) = _
    rw [lexK_append, c4, c3, e3]
  · show openK o (labCore b op ++ labEnd b op) = _
    rw [openK_append, c4, e4]
  · rw [last_app _ (by simp [hne]), last_app _ hne, e5]
theorem lab_blk (c b : Bool) {op : Int} (ho : 34 ≤ op ∧ op ≤ 40) : Blk (labPcs c b op) (labLns c b op) := by
  have hs : okP SP := .inl rfl
  have hc : okP (.sign 58) := .inr (.inl rfl)
  have hst := labStm_ok (b := b) ho
  have hne := labStm_ne (b := b) (op := op)
  cases c with
  | false =>
    obtain ⟨b1, b2, b3, b4⟩ := lab_body b ho false
    refine ⟨b1, fun x hx => ?_, ?_, b3, fun L hL => ?_⟩
    · have : some Pc.line = some x := b4.symm.trans hx
      injection this with h; exact h.symm
    · show lexK false ([SP] ++ (labCore b op ++ labEnd b op)) = flatK [⟨[], labStm b op⟩]
      rw [b2, flatK_one]; rfl
    · have : L = ⟨[], labStm b op⟩ := List.mem_singleton.1 hL
      rw [this]
      exact ⟨hst, by simpa [lnKeys, labKeys] using hne⟩
  | true =>
    obtain ⟨b1, b2, b3, b4⟩ := lab_body b ho true
    have hgh : goodP (labHead true) := ⟨here_name, trivial, hc, trivial, hs, trivial, trivial, trivial, hs, trivial, there_name, trivial, hc, trivial, trivial⟩
    refine ⟨?_, fun x hx => ?_, ?_, ?_, fun L hL => ?_⟩
    · refine goodP_append _ _ hgh b1 (fun x hx => ?_)
      have : some (Pc.sign 58) = some x := hx
      injection this with h
      rw [← h]; trivial
    · have h2 : (labPcs true b op).getLast? = some .line := by
        unfold labPcs; rw [last_app _ (by simp), b4]
      have : some Pc.line = some x := h2.symm.trans hx
      injection this with h; exact h.symm
    · unfold labPcs
      rw [lexK_append]
      have h1 : openK false (labHead true) = true := rfl
      have h2 : lexK false (labHead true) = [kN hereN, kS 58, k4, kN thereN, kS 58] := rfl
      rw [h1, h2, b2]
      show _ = flatK ([⟨[hereN], .none⟩] ++ [⟨[thereN], labStm b op⟩])
      rw [flatK_append, flatK_one, flatK_one]
      simp [lnKeys, labKeys, stmKeys]
    · unfold labPcs
      rw [openK_append]
      exact b3
    · have : L = ⟨[hereN], .none⟩ ∨ L = ⟨[thereN], labStm b op⟩ := by simpa [labLns] using hL
      rcases this with rfl | rfl
      · exact ⟨trivial, by simp [lnKeys, labKeys]⟩
      · exact ⟨hst, by simp [lnKeys, labKeys]⟩
/-! ### what it is laid as -/
def labIdx (from_ to : Nat) (op : Int) (i : Nat) : List PartK := (labLns (decide (i = to)) (decide (i = from_)) op).flatMap lnParts
def labPart (t : List UInt8) : PartK := ⟨1, 0, t, ins0, key0⟩
def stmPart (b : Bool) (op : Int) : PartK := if b = true then ⟨2, 0, [], labIns op 0, kN (labTgt op)⟩ else ⟨2, 0, [], haltL, key0⟩
theorem labIdx_eq (from_ to : Nat) (op : Int) (i : Nat) : labIdx from_ to op i = (if i = to then [labPart hereN, labPart thereN] else []) ++ [stmPart (decide (i = from_)) op] := by
  have hs : ∀ b, stmParts (labStm b op) = [stmPart b op] := by
    intro b
    unfold labStm stmPart
    cases b
    · rfl
    · simp only [if_true]
      unfold stmParts
      simp only
      rw [if_neg (labTgt_ne op)]
  unfold labIdx labLns
  by_cases h : i = to
  · have e : stmParts Stm.none = [] := rfl
    simp [h, lnParts, labParts, hs, labPart, e]
  · simp [h, lnParts, labParts, hs]
def labAll (from_ to : Nat) (op : Int) (k m : Nat) : List PartK := (List.range' k m).flatMap (labIdx from_ to op)
theorem labAll_succ (from_ to : Nat) (op : Int) (k m : Nat) : labAll from_ to op k (m + 1) = labIdx from_ to op k ++ labAll from_ to op (k + 1) m := by
  unfold labAll; rw [List.range'_succ, List.flatMap_cons]
theorem stmPart_kind (b : Bool) (op : Int) : (stmPart b op).kind = 2 := by unfold stmPart; split <;> rfl
theorem placeK_kc (name : List UInt8) (x : PartK) (xs : List PartK) (n : Int) : placeK name (x :: xs) n = if x.kind = 1 ∧ x.name = name then some n else placeK name xs (if x.kind = 2 then n + 1 else n) := rfl
theorem place_stm (name : List UInt8) (b : Bool) (op : Int) (xs : List PartK) (n : Int) : placeK name (stmPart b op :: xs) n = placeK name xs (n + 1) := by
  rw [placeK_kc, stmPart_kind, if_neg (by simp), if_pos rfl]
theorem place_lab (name t : List UInt8) (xs : List PartK) (n : Int) : placeK name (labPart t :: xs) n = if t = name then some n else placeK name xs n := by
  rw [placeK_kc]
  unfold labPart
  by_cases h : t = name
  · rw [if_pos ⟨rfl, h⟩, if_pos h]
  · rw [if_neg (fun e => h e.2), if_neg h, if_neg (by simp)]
theorem place_all {name : List UInt8} (hn : name = hereN ∨ name = thereN) (from_ to : Nat) (op : Int) : ∀ m k (n : Int), k ≤ to → to < k + m → placeK name (labAll from_ to op k m) n = some (n + ((to - k : Nat) : Int))
  | 0, k, n, h1, h2 => by omega
  | m + 1, k, n, h1, h2 => by
    rw [labAll_succ, labIdx_eq]
    by_cases h : k = to
    · subst h
      rw [if_pos rfl]
      simp only [List.cons_append, List.nil_append]
      rw [place_lab]
      rcases hn with rfl | rfl
      · rw [if_pos rfl]; simp
      · rw [if_neg (by decide), place_lab, if_pos rfl]; simp
    · rw [if_neg h]
      simp only [List.nil_append, List.cons_append]
      rw [place_stm, place_all hn from_ to op m (k + 1) (n + 1) (by omega) (by omega)]
      congr 1
      omega
def labCode (from_ to : Nat) (op : Int) (i : Nat) : Ins := if i = from_ then labIns op ((to : Int) - from_) else haltL
theorem lay_labs {from_ to n : Nat} {op : Int} (ho : 34 ≤ op ∧ op ≤ 40) (hto : to < n) (hf : from_ < n) (hn : n ≤ 60) : ∀ m k (pre : List PartK) (p : Prog), k + m = n → p.code.length = k → (k ≤ to → hasK hereN pre = false ∧ hasK thereN pre = false) →
    layK (labAll from_ to op 0 n) pre (labAll from_ to op k m) p = some { p with code := p.code ++ (List.range' k m).map (labCode from_ to op) }
  | 0, k, pre, p, h1, h2, h3 => by
    have e : labAll from_ to op k 0 = [] := rfl
    rw [e, layK_end]; simp
  | m + 1, k, pre, p, h1, h2, h3 => by
    have hstm : ∀ pre' : List PartK, layK (labAll from_ to op 0 n) pre' (stmPart (decide (k = from_)) op :: labAll from_ to op (k + 1) m) p =
        layK (labAll from_ to op 0 n) (pre' ++ [stmPart (decide (k = from_)) op]) (labAll from_ to op (k + 1) m) { p with code := p.code ++ [labCode from_ to op k] } := by
      intro pre'
      rw [layK_kc, stmPart_kind, if_neg (by omega), if_neg (by omega), if_neg (by omega), if_pos rfl]
      by_cases hk : k = from_
      · have ha : aimK (labAll from_ to op 0 n) (stmPart (decide (k = from_)) op) p.code.length = some (labIns op ((to : Int) - from_)) := by
          unfold stmPart
          rw [if_pos (by simpa using hk)]
          unfold aimK
          rw [if_pos rfl]
          simp only
          rw [place_all (by unfold labTgt; split; exact .inl rfl; exact .inr rfl) from_ to op n 0 0 (Nat.zero_le _) (by omega), h2, hk]
          simp only [Nat.sub_zero, Int.zero_add, lab_set]
        rw [ha]
        simp only
        rw [if_pos (lab_right ho (by omega))]
        have e : labCode from_ to op k = labIns op ((to : Int) - from_) := by unfold labCode; rw [if_pos hk]
        rw [e]
      · have ha : aimK (labAll from_ to op 0 n) (stmPart (decide (k = from_)) op) p.code.length = some haltL := by
          unfold stmPart
          rw [if_neg (by simpa using hk)]
          unfold aimK
          rw [if_neg (by simp)]
        rw [ha]
        simp only
        rw [if_pos halt_rightL]
        have e : labCode from_ to op k = haltL := by unfold labCode; rw [if_neg hk]
        rw [e]
    have hend : ∀ pre' : List PartK, (k + 1 ≤ to → hasK hereN pre' = false ∧ hasK thereN pre' = false) → layK (labAll from_ to op 0 n) (pre' ++ [stmPart (decide (k = from_)) op]) (labAll from_ to op (k + 1) m) { p with code := p.code ++ [labCode from_ to op k] } =
        some { p with code := p.code ++ (List.range' k (m + 1)).map (labCode from_ to op) } := by
      intro pre' hp
      have hs : ∀ t, hasK t [stmPart (decide (k = from_)) op] = false := by
        intro t; unfold hasK; simp [stmPart_kind]
      have happ : ∀ t, hasK t (pre' ++ [stmPart (decide (k = from_)) op]) = hasK t pre' := by
        intro t
        have := hs t
        unfold hasK at this ⊢
        rw [List.any_append, this, Bool.or_false]
      rw [lay_labs ho hto hf hn m (k + 1) _ _ (by omega) (by simp [h2]) (fun h => by rw [happ, happ]; exact hp h)]
      simp [List.range'_succ]
    rw [labAll_succ, labIdx_eq]
    by_cases h : k = to
    · rw [if_pos h]
      simp only [List.cons_append, List.nil_append]
      obtain ⟨q1, q2⟩ := h3 (by omega)
      rw [layK_kc, if_pos (show (labPart hereN).kind = 1 from rfl), if_neg (by rw [show (labPart hereN).name = hereN from rfl, q1]; decide), layK_kc, if_pos (show (labPart thereN).kind = 1 from rfl), if_neg, hstm, hend _ (fun h' => by omega)]
      rw [show (labPart thereN).name = thereN from rfl]
      unfold hasK at q2 ⊢
      rw [List.any_append, q2]
      decide
    · rw [if_neg h]
      simp only [List.nil_append, List.cons_append]
      rw [hstm, hend _ (fun h' => h3 (by omega))]
def labProg (n from_ to : Nat) (op : Int) : Prog := ⟨(List.range' 0 n).map (labCode from_ to op), 0, []⟩
theorem labProg_at {n from_ to : Nat} {op : Int} {j : Nat} (h : j < n) : (labProg n from_ to op).code[j]? = some (labCode from_ to op j) := by
  unfold labProg
  simp only
  rw [List.getElem?_map, List.getElem?_range' h]
  simp
theorem targetsOk_of (n : Nat) : ∀ (l : List Ins) (s : Nat), (∀ j i, l[j]? = some i → badTarget n (s + j) i = false) → targetsOk n s l = true
  | [], s, h => rfl
  | i :: l, s, h => by
    have h0 := h 0 i rfl
    rw [Nat.add_zero] at h0
    unfold targetsOk
    rw [h0, targetsOk_of n l (s + 1) (fun j x hx => by have := h (j + 1) x hx; rwa [show s + (j + 1) = s + 1 + j by omega] at this)]
    rfl
theorem lab_check {n from_ to : Nat} {op : Int} (ho : 34 ≤ op ∧ op ≤ 40) (hto : to < n) (hf : from_ < n) (hn : n ≤ 60) : checkZ (labProg n from_ to op) = .ok (labProg n from_ to op) := by
  have hlen : (labProg n from_ to op).code.length = n := by unfold labProg; simp
  have hcode : ∀ i ∈ (labProg n from_ to op).code, rightB i = true := by
    intro i hi
    obtain ⟨j, _, rfl⟩ := List.mem_map.1 hi
    unfold labCode
    split
    · exact lab_right ho (by omega)
    · exact halt_rightL
  have ht : targetsOk n 0 (labProg n from_ to op).code = true := by
    refine targetsOk_of n _ 0 (fun j i hi => ?_)
    have hj : j < n := by have := (List.getElem?_eq_some_iff.1 hi).1; omega
    rw [labProg_at hj] at hi
    injection hi with hi
    subst hi
    unfold labCode
    split
    · rename_i h
      subst h
      unfold badTarget targetZ
      rw [lab_imm, if_neg (by
        have : isJump (labIns op ((to : Int) - j)) = true := by rw [isJump_form, lab_op]; have := formZ_cases op; omega
        rw [this]
        simp
        omega)]
      simp
      intro _
      omega
    · rfl
  unfold checkZ rightZ sizesOk
  rw [hlen, if_neg (by rw [ht]; decide), if_pos]
  rw [Bool.and_eq_true, Bool.and_eq_true, decide_eq_true_eq]
  exact ⟨⟨⟨by omega, by omega, by show (0 : Int) ≤ 0; omega, by show (0 : Int) ≤ 65536; omega, by show ((0 : Nat) : Int) ≤ 0; omega⟩, List.all_eq_true.2 hcode⟩, ht⟩
/-- The text, line by line. -/
def labText (n from_ to : Nat) (op : Int) : List UInt8 := (List.range' 0 n).flatMap fun i => pcText (labPcs (decide (i = to)) (decide (i = from_)) op)
theorem pcText_flat {α : Type} (f : α → List Pc) : ∀ l : List α, pcText (l.flatMap f) = l.flatMap fun x => pcText (f x)
  | [] => rfl
  | x :: l => by rw [List.flatMap_cons, List.flatMap_cons, pcText_append, pcText_flat f l]
theorem lab_asm {n from_ to : Nat} {op : Int} (ho : 34 ≤ op ∧ op ≤ 40) (hto : to < n) (hf : from_ < n) (hn : n ≤ 60) (hl : (labText n from_ to op).length ≤ 20000) : asmZ (labText n from_ to op) = .ok (labProg n from_ to op) := by
  have hb := Blk.flat (fun i => labPcs (decide (i = to)) (decide (i = from_)) op) (fun i => labLns (decide (i = to)) (decide (i = from_)) op) (List.range' 0 n) (fun i _ => lab_blk _ _ ho)
  have ht := pcText_flat (fun i => labPcs (decide (i = to)) (decide (i = from_)) op) (List.range' 0 n)
  unfold labText at hl ⊢
  rw [← ht] at hl ⊢
  have hp : ((List.range' 0 n).flatMap fun i => labLns (decide (i = to)) (decide (i = from_)) op).flatMap lnParts = labAll from_ to op 0 n := by
    rw [List.flatMap_assoc]; rfl
  rw [asmZ_blk hb hl (q := labProg n from_ to op) ?_, lab_check ho hto hf hn]
  rw [hp, lay_labs ho hto hf hn n 0 [] ⟨[], 0, []⟩ (by omega) rfl (fun _ => ⟨rfl, rfl⟩)]
  simp [labProg]
end Go.Proofs.YtfdegdbknponkaaDoor.Words

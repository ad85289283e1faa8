/- Several texts in one: ImgMath, SayLines, SayShow, RefShow, ImageHelp, OpenIns, OpenProg. -/
import Derived.Test.YtfdegdbknponkaaDoorG01
import Derived.Test.YtfdegdbknponkaaDoorG08
import Derived.Test.YtfdegdbknponkaaDoorG09
import Derived.Test.YtfdegdbknponkaaDoorG06
import Derived.Test.YtfdegdbknponkaaDoorG02
import Derived.Test.YtfdegdbknponkaaDoorG07
import Derived.Deep.QuietTactic
import Derived.BigQuiet
import Derived.Test.YtfdegdbknponkaaDoorRows
import Derived.ProofKit
import Derived.OpenShut
import Derived.ChangeOld
import Derived.Deep.Slices

/- Plain mathematics of chapter 4: a program's bytes. Nothing here speaks of one program text. -/
namespace Go.Proofs.YtfdegdbknponkaaDoor.Words
set_option maxRecDepth 100000
open Go.RowKit

/-- A word's four bytes. -/
def quadZ (x : Int) : List Int := [x % 256, x / 256 % 256, x / 65536 % 256, x / 16777216]
theorem quadZ_len (x : Int) : (quadZ x).length = 4 := rfl
def codeBytes (l : List Ins) : List Int := l.flatMap fun i => quadZ (encZ i)
theorem codeBytes_cons (i : Ins) (l : List Ins) : codeBytes (i :: l) = quadZ (encZ i) ++ codeBytes l := by simp [codeBytes]
theorem codeBytes_append (l m : List Ins) : codeBytes (l ++ m) = codeBytes l ++ codeBytes m := by simp [codeBytes]
theorem codeBytes_len (l : List Ins) : (codeBytes l).length = 4 * l.length := by
  induction l with
  | nil => rfl
  | cons i l ih => rw [codeBytes_cons, List.length_append, ih, quadZ_len, List.length_cons]; omega
theorem codeBytes_take {l : List Ins} {j : Nat} {i : Ins} (h : l[j]? = some i) : codeBytes (l.take (j + 1)) = codeBytes (l.take j) ++ quadZ (encZ i) := by
  obtain ⟨hlt, rfl⟩ := List.getElem?_eq_some_iff.1 h
  rw [List.take_add_one, List.getElem?_eq_getElem hlt, codeBytes_append]
  simp [codeBytes]
def imgHead (n s m : Int) : List Int := [83, 82, 73, 1] ++ quadZ n ++ quadZ s ++ quadZ m
theorem imgHead_len (n s m : Int) : (imgHead n s m).length = 16 := rfl
/-- A program's bytes. -/
def imgZ (p : Prog) : List Int := imgHead p.code.length p.size p.data.length ++ codeBytes p.code ++ p.data
theorem imgZ_len (p : Prog) : (imgZ p).length = 16 + 4 * p.code.length + p.data.length := by
  unfold imgZ; rw [List.length_append, List.length_append, imgHead_len, codeBytes_len]
theorem all_at {l : List Ins} (h : l.all rightB = true) {j : Nat} {i : Ins} (hi : l[j]? = some i) : rightB i = true := by
  rw [List.all_eq_true] at h
  exact h i (List.mem_of_getElem? hi)
theorem right_parts {p : Prog} (h : p.right = true) : (1 ≤ p.code.length ∧ p.code.length ≤ 2000 ∧ 0 ≤ p.size ∧ p.size ≤ 65536 ∧ (p.data.length : Int) ≤ p.size) ∧ p.code.all rightB = true ∧ p.targets = true := by
  unfold Prog.right at h
  rw [Bool.and_eq_true, Bool.and_eq_true, decide_eq_true_iff] at h
  exact ⟨h.1.1, h.1.2, h.2⟩
end Go.Proofs.YtfdegdbknponkaaDoor.Words

/- Texts of whole lines: pieces that end with a line's end, and the lines that they are. Plain mathematics. -/
namespace Go.Proofs.YtfdegdbknponkaaDoor.Words
set_option maxRecDepth 100000
set_option linter.unusedVariables false
set_option linter.unusedSimpArgs false
open Go.Lib

def flatK (Ls : List Ln) : List Key := Ls.flatMap fun L => lnKeys L ++ [k4]
theorem flatK_append (a b : List Ln) : flatK (a ++ b) = flatK a ++ flatK b := by simp [flatK]
theorem flatK_one (L : Ln) : flatK [L] = lnKeys L ++ [k4] := by simp [flatK]
theorem textKeys_flat : ∀ Ls : List Ln, textKeys [k4] Ls = flatK Ls
  | [] => rfl
  | [L] => by rw [flatK_one]; rfl
  | L :: L2 :: Ls => by
    have e : textKeys [k4] (L :: L2 :: Ls) = lnKeys L ++ k4 :: textKeys [k4] (L2 :: Ls) := rfl
    have e2 : flatK (L :: L2 :: Ls) = (lnKeys L ++ [k4]) ++ flatK (L2 :: Ls) := rfl
    rw [e, e2, textKeys_flat (L2 :: Ls)]
    simp
/-- Pieces that are whole lines. -/
structure Blk (ps : List Pc) (Ls : List Ln) : Prop where
  good : goodP ps
  last : ∀ x, ps.getLast? = some x → x = .line
  keys : lexK false ps = flatK Ls
  opn : openK false ps = false
  ok : ∀ L ∈ Ls, LnOk L
theorem last_app {α : Type} (a : List α) {b : List α} (hb : b ≠ []) : (a ++ b).getLast? = b.getLast? := by
  rw [List.getLast?_append]
  cases h : b.getLast? with
  | none => exact absurd (List.getLast?_eq_none_iff.1 h) hb
  | some x => rfl
theorem Blk.nil : Blk [] [] := ⟨trivial, (fun x h => by cases h), rfl, rfl, (fun L h => by cases h)⟩
theorem Blk.append {a b : List Pc} {la lb : List Ln} (h : Blk a la) (g : Blk b lb) : Blk (a ++ b) (la ++ lb) := by
  refine ⟨goodP_append a b h.good g.good (fun x hx => ?_), fun x hx => ?_, ?_, ?_, fun L hL => ?_⟩
  · rw [h.last x hx]; trivial
  · cases b with
    | nil => rw [List.append_nil] at hx; exact h.last x hx
    | cons p b => rw [last_app _ (by simp)] at hx; exact g.last x hx
  · rw [lexK_append, h.opn, h.keys, g.keys, flatK_append]
  · rw [openK_append, h.opn, g.opn]
  · rcases List.mem_append.1 hL with hL | hL
    · exact h.ok L hL
    · exact g.ok L hL
theorem Blk.flat {α : Type} (f : α → List Pc) (g : α → List Ln) : ∀ l : List α, (∀ x ∈ l, Blk (f x) (g x)) → Blk (l.flatMap f) (l.flatMap g)
  | [], _ => Blk.nil
  | x :: l, h => by
    rw [List.flatMap_cons, List.flatMap_cons]
    exact (h x (by simp)).append (Blk.flat f g l (fun y hy => h y (by simp [hy])))
theorem asmZ_blk {ps : List Pc} {Ls : List Ln} (h : Blk ps Ls) (hn : (pcText ps).length ≤ 20000) {q : Prog} (hq : layK (Ls.flatMap lnParts) [] (Ls.flatMap lnParts) ⟨[], 0, []⟩ = some q) : asmZ (pcText ps) = checkZ q :=
  asmZ_lines rfl h.good hn (.inr rfl) h.ok (h.keys.trans (textKeys_flat Ls).symm) hq

/-! ### how a line ends -/
def endPcs : Nat → List Pc
  | 0 => [.line]
  | 1 => [SP, .blank 9, .line]
  | 2 => [SP, .hash [32, 114, 101, 109, 97, 114, 107, 32, 40], .line]
  | 3 => [.blank 13, .line]
  | _ => [.line, .line, SP, SP, .line]
theorem end_good (k : Nat) : goodP (endPcs k) ∧ softN (endPcs k) = true ∧ lexK true (endPcs k) = [k4] ∧ openK true (endPcs k) = false ∧ (endPcs k).getLast? = some .line ∧ endPcs k ≠ [] := by
  have hs : okP SP := .inl rfl
  match k with
  | 0 => exact ⟨⟨trivial, trivial, trivial⟩, rfl, rfl, rfl, rfl, by simp [endPcs]⟩
  | 1 => exact ⟨⟨hs, trivial, .inr (.inl rfl), trivial, trivial, trivial, trivial⟩, rfl, rfl, rfl, rfl, by simp [endPcs]⟩
  | 2 => exact ⟨⟨hs, trivial, by show ∀ c ∈ ([32, 114, 101, 109, 97, 114, 107, 32, 40] : List UInt8), c.toNat < 128 ∧ c ≠ 10; decide, trivial, trivial, trivial, trivial⟩, rfl, rfl, rfl, rfl, by simp [endPcs]⟩
  | 3 => exact ⟨⟨.inr (.inr rfl), trivial, trivial, trivial, trivial⟩, rfl, rfl, rfl, rfl, by simp [endPcs]⟩
  | n + 4 => exact ⟨⟨trivial, trivial, trivial, trivial, hs, trivial, hs, trivial, trivial, trivial, trivial⟩, rfl, rfl, rfl, rfl, by simp [endPcs]⟩
/-- A statement's pieces, and how its line ends. -/
theorem blk_line {ps : List Pc} {L : Ln} (hg : goodP ps) (hn : ∀ p ∈ ps, isHash p = false) (hk : lexK false ps = lnKeys L) (hopen : openK false ps = true) (ho : LnOk L) (k : Nat) : Blk (ps ++ endPcs k) [L] := by
  obtain ⟨e1, e2, e3, e4, e5, e6⟩ := end_good k
  refine ⟨goodP_behind hg hn e1 e2, fun x hx => ?_, ?_, ?_, fun M hM => ?_⟩
  · rw [last_app _ e6, e5] at hx
    injection hx with hx; exact hx.symm
  · rw [lexK_append, hopen, hk, e3, flatK_one]
  · rw [openK_append, hopen, e4]
  · rw [List.mem_singleton.1 hM]; exact ho
def sizePcs (n : Int) : List Pc := [.name sizeN, SP, .num n (decN n)]
def bytePcs1 (n : Int) : List Pc := [.name byteN, SP, .num n (decN n)]
theorem size_ln (n : Int) : LnOk ⟨[], .size n⟩ := ⟨trivial, by simp [lnKeys, labKeys, stmKeys]⟩
theorem bytes_ln (n : Int) (ns : List Int) : LnOk ⟨[], .bytes n ns⟩ := ⟨trivial, by simp [lnKeys, labKeys, stmKeys]⟩
theorem blk_size {n : Int} (h : -4294967296 ≤ n ∧ n ≤ 4294967296) (k : Nat) : Blk (sizePcs n ++ endPcs k) [⟨[], .size n⟩] := by
  have hg : goodP (sizePcs n) := ⟨size_name, trivial, .inl rfl, trivial, decN_num h, trivial, trivial⟩
  refine blk_line hg ?_ rfl rfl (size_ln n) k
  intro p hp
  simp only [sizePcs, List.mem_cons, List.not_mem_nil, or_false] at hp
  rcases hp with rfl | rfl | rfl <;> rfl
theorem blk_byte1 {n : Int} (h : 0 ≤ n ∧ n ≤ 255) (k : Nat) : Blk (bytePcs1 n ++ endPcs k) [⟨[], .bytes n []⟩] := by
  have hg : goodP (bytePcs1 n) := ⟨byte_name, trivial, .inl rfl, trivial, decN_num (by omega), trivial, trivial⟩
  refine blk_line hg ?_ rfl rfl (bytes_ln n []) k
  intro p hp
  simp only [bytePcs1, List.mem_cons, List.not_mem_nil, or_false] at hp
  rcases hp with rfl | rfl | rfl <;> rfl
theorem blk_ins {i : Ins} (hr : rightB i = true) (k : Nat) : Blk (insPcs i [] (decN i.imm) ++ endPcs k) [⟨[], .ins i []⟩] := by
  have hi := (right_range hr).2.2.2.2
  obtain ⟨k1, o1⟩ := lexK_ins i [] (decN i.imm) false
  have hL : LnOk ⟨[], .ins i []⟩ := ⟨⟨hr, fun h => absurd rfl h⟩, by simp [lnKeys, labKeys, stmKeys]⟩
  exact blk_line (goodP_ins hr (decN_num (by omega)) (fun h => absurd rfl h)) (ins_nohash _ _ _) (by rw [k1]; rfl) o1 hL k

/-! ### what plain lines are laid as -/
def byteK (n : Int) : PartK := ⟨4, n, [], ins0, key0⟩
def insK (i : Ins) : PartK := ⟨2, 0, [], i, key0⟩
theorem layK_kc (all pre xs : List PartK) (x : PartK) (p : Prog) : layK all pre (x :: xs) p =
    if x.kind = 1 then (if hasK x.name pre = true then none else layK all (pre ++ [x]) xs p)
    else if x.kind = 3 then layK all (pre ++ [x]) xs { p with size := x.num }
    else if x.kind = 4 then (if x.num < 0 ∨ 255 < x.num then none else layK all (pre ++ [x]) xs { p with data := p.data ++ [x.num] })
    else if x.kind = 2 then (match aimK all x p.code.length with
      | none => none
      | some i => if rightB i = true then layK all (pre ++ [x]) xs { p with code := p.code ++ [i] } else none)
    else layK all (pre ++ [x]) xs p := rfl
theorem layK_end (all pre : List PartK) (p : Prog) : layK all pre [] p = some p := by unfold layK; rfl
theorem layK_sizes (all pre xs : List PartK) (n : Int) (p : Prog) : layK all pre (⟨3, n, [], ins0, key0⟩ :: xs) p = layK all (pre ++ [⟨3, n, [], ins0, key0⟩]) xs { p with size := n } := by
  rw [layK_kc, if_neg (by simp), if_pos rfl]
theorem layK_bytes : ∀ (bs : List Int) (all pre xs : List PartK) (p : Prog), (∀ b ∈ bs, 0 ≤ b ∧ b ≤ 255) → ∃ pre', layK all pre (bs.map byteK ++ xs) p = layK all pre' xs { p with data := p.data ++ bs }
  | [], all, pre, xs, p, _ => ⟨pre, by simp⟩
  | b :: bs, all, pre, xs, p, h => by
    obtain ⟨pre', h'⟩ := layK_bytes bs all (pre ++ [byteK b]) xs { p with data := p.data ++ [b] } (fun c hc => h c (by simp [hc]))
    refine ⟨pre', ?_⟩
    have hb := h b (by simp)
    rw [List.map_cons, List.cons_append]
    unfold byteK at h' ⊢
    rw [layK_kc, if_neg (by simp), if_neg (by simp), if_pos rfl, if_neg (by simp only; omega), h']
    simp
theorem layK_codes : ∀ (is : List Ins) (all pre xs : List PartK) (p : Prog), (∀ i ∈ is, rightB i = true) → ∃ pre', layK all pre (is.map insK ++ xs) p = layK all pre' xs { p with code := p.code ++ is }
  | [], all, pre, xs, p, _ => ⟨pre, by simp⟩
  | i :: is, all, pre, xs, p, h => by
    obtain ⟨pre', h'⟩ := layK_codes is all (pre ++ [insK i]) xs { p with code := p.code ++ [i] } (fun c hc => h c (by simp [hc]))
    refine ⟨pre', ?_⟩
    rw [List.map_cons, List.cons_append]
    unfold insK at h' ⊢
    rw [layK_kc, if_neg (by simp), if_neg (by simp), if_neg (by simp), if_pos rfl]
    unfold aimK
    rw [if_neg (by simp)]
    simp only
    rw [if_pos (h i (by simp)), h']
    simp
/-- A program that may be is what its own parts are laid as. -/
theorem lay_prog {p : Prog} (hr : p.right = true) (hd : ∀ b ∈ p.data, 0 ≤ b ∧ b ≤ 255) (all : List PartK) : layK all [] (⟨3, p.size, [], ins0, key0⟩ :: (p.data.map byteK ++ p.code.map insK)) ⟨[], 0, []⟩ = some p := by
  obtain ⟨_, ha, _⟩ := right_parts hr
  rw [layK_sizes]
  obtain ⟨p1, h1⟩ := layK_bytes p.data all _ (p.code.map insK) { code := [], size := p.size, data := [] } hd
  obtain ⟨p2, h2⟩ := layK_codes p.code all p1 [] { code := [], size := p.size, data := [] ++ p.data } (fun i hi => List.all_eq_true.1 ha i hi)
  rw [List.append_nil] at h2
  rw [h1, h2, layK_end]
  simp
theorem check_right {p : Prog} (hr : p.right = true) : checkZ p = .ok p := by
  have h := hr
  rw [right_prog] at h
  have ht := (right_parts hr).2.2
  unfold checkZ
  rw [if_neg (by show ¬ p.targets = false; rw [ht]; decide), if_pos h]
end Go.Proofs.YtfdegdbknponkaaDoor.Words

/- What an instruction is shown as, piece by piece. Plain mathematics. -/
namespace Go.Proofs.YtfdegdbknponkaaDoor.Words
set_option maxRecDepth 100000
set_option linter.unusedVariables false
set_option linter.unusedSimpArgs false
open Go.Lib

def showP (i : Ins) : List Pc := insPcs i [] (decN i.imm)
def showI (i : Ins) : List UInt8 := pcText (showP i)
def showZ (i : Ins) : List UInt8 := if rightB i = true then showI i else []
def regS (n : Int) : List UInt8 := 114 :: decN n
theorem decN_pos {n : Int} (h : 0 ≤ n) : decN n = digs 10 false n.toNat := by
  unfold decN
  rw [if_neg (by omega), show n.natAbs = n.toNat by omega]
theorem regS_eq {n : Int} (h : 0 ≤ n ∧ n ≤ 15) : regS n = regN n := by unfold regS regN; rw [decN_pos h.1]
theorem regS_len {n : Int} (h : 0 ≤ n ∧ n ≤ 15) : (regS n).length ≤ 3 := by rw [regS_eq h]; exact regN_len h
theorem showI_form {i : Ins} {k : Int} (hf : formZ i.op = k) : showI i = nameN i.op ++ pcText
  (if k = 1 then [SP, .name (regN i.d), CM, SP, .name (regN i.a), CM, SP, .name (regN i.b)]
  else if k = 2 then [SP, .name (regN i.d), CM, SP, .name (regN i.a), CM, SP, .num i.imm (decN i.imm)]
  else if k = 3 then [SP, .name (regN i.d), CM, SP, .num i.imm (decN i.imm)]
  else if k = 4 then [SP, .name (regN i.d), CM, SP, .num i.imm (decN i.imm), .sign 40, .name (regN i.a), .sign 41]
  else if k = 5 then [SP, .name (regN i.b), CM, SP, .num i.imm (decN i.imm), .sign 40, .name (regN i.a), .sign 41]
  else if k = 6 then [SP, .name (regN i.a), CM, SP, .name (regN i.b), CM, SP, .num i.imm (decN i.imm)]
  else if k = 7 then [SP, .num i.imm (decN i.imm)]
  else []) := by
  unfold showI showP insPcs
  rw [pcText_cons, hf]
  rfl
theorem showI_1 {i : Ins} (hf : formZ i.op = 1) (hd : 0 ≤ i.d ∧ i.d ≤ 15) (ha : 0 ≤ i.a ∧ i.a ≤ 15) (hb : 0 ≤ i.b ∧ i.b ≤ 15) : showI i = nameN i.op ++ [32] ++ regS i.d ++ [44, 32] ++ regS i.a ++ [44, 32] ++ regS i.b := by
  rw [showI_form hf, regS_eq hd, regS_eq ha, regS_eq hb, if_pos rfl]; simp [pcText, Pc.text]
theorem showI_2 {i : Ins} (hf : formZ i.op = 2) (hd : 0 ≤ i.d ∧ i.d ≤ 15) (ha : 0 ≤ i.a ∧ i.a ≤ 15) : showI i = nameN i.op ++ [32] ++ regS i.d ++ [44, 32] ++ regS i.a ++ [44, 32] ++ decN i.imm := by
  rw [showI_form hf, regS_eq hd, regS_eq ha, if_neg (by omega), if_pos rfl]; simp [pcText, Pc.text]
theorem showI_3 {i : Ins} (hf : formZ i.op = 3) (hd : 0 ≤ i.d ∧ i.d ≤ 15) : showI i = nameN i.op ++ [32] ++ regS i.d ++ [44, 32] ++ decN i.imm := by
  rw [showI_form hf, regS_eq hd, if_neg (by omega), if_neg (by omega), if_pos rfl]; simp [pcText, Pc.text]
theorem showI_4 {i : Ins} (hf : formZ i.op = 4) (hd : 0 ≤ i.d ∧ i.d ≤ 15) (ha : 0 ≤ i.a ∧ i.a ≤ 15) : showI i = nameN i.op ++ [32] ++ regS i.d ++ [44, 32] ++ decN i.imm ++ [40] ++ regS i.a ++ [41] := by
  rw [showI_form hf, regS_eq hd, regS_eq ha, if_neg (by omega), if_neg (by omega), if_neg (by omega), if_pos rfl]; simp [pcText, Pc.text]
theorem showI_5 {i : Ins} (hf : formZ i.op = 5) (hb : 0 ≤ i.b ∧ i.b ≤ 15) (ha : 0 ≤ i.a ∧ i.a ≤ 15) : showI i = nameN i.op ++ [32] ++ regS i.b ++ [44, 32] ++ decN i.imm ++ [40] ++ regS i.a ++ [41] := by
  rw [showI_form hf, regS_eq hb, regS_eq ha, if_neg (by omega), if_neg (by omega), if_neg (by omega), if_neg (by omega), if_pos rfl]; simp [pcText, Pc.text]
theorem showI_6 {i : Ins} (hf : formZ i.op = 6) (ha : 0 ≤ i.a ∧ i.a ≤ 15) (hb : 0 ≤ i.b ∧ i.b ≤ 15) : showI i = nameN i.op ++ [32] ++ regS i.a ++ [44, 32] ++ regS i.b ++ [44, 32] ++ decN i.imm := by
  rw [showI_form hf, regS_eq ha, regS_eq hb, if_neg (by omega), if_neg (by omega), if_neg (by omega), if_neg (by omega), if_neg (by omega), if_pos rfl]; simp [pcText, Pc.text]
theorem showI_7 {i : Ins} (hf : formZ i.op = 7) : showI i = nameN i.op ++ [32] ++ decN i.imm := by
  rw [showI_form hf, if_neg (by omega), if_neg (by omega), if_neg (by omega), if_neg (by omega), if_neg (by omega), if_neg (by omega), if_pos rfl]; simp [pcText, Pc.text]
theorem showI_8 {i : Ins} (hf : formZ i.op = 8) : showI i = nameN i.op := by
  rw [showI_form hf, if_neg (by omega), if_neg (by omega), if_neg (by omega), if_neg (by omega), if_neg (by omega), if_neg (by omega), if_neg (by omega)]; simp [pcText, Pc.text]
theorem decN_len8 {n : Int} (h : -8192 ≤ n ∧ n ≤ 8191) : (decN n).length ≤ 12 := decN_len (by omega)
theorem nameN_ne {op : Int} (h : 1 ≤ op ∧ op ≤ 41) : nameN op ≠ [] := by
  obtain ⟨⟨c, r, e, _⟩, _⟩ := nameN_name h
  rw [e]; simp
theorem showI_ne {i : Ins} (hr : rightB i = true) : showI i ≠ [] := by
  have := nameN_ne (right_range hr).1
  rw [showI_form rfl]
  simp [this]
theorem showI_len {i : Ins} (hr : rightB i = true) : (showI i).length ≤ 40 := by
  obtain ⟨ho, hd, ha, hb, hi⟩ := right_range hr
  have l0 := nameN_len ho
  have l1 := decN_len8 hi
  have l2 := regN_len hd
  have l3 := regN_len ha
  have l4 := regN_len hb
  rw [showI_form rfl, List.length_append]
  rcases formZ_cases i.op with ⟨hf, _⟩ | ⟨hf, _⟩ | ⟨hf, _⟩ | ⟨hf, _⟩ | ⟨hf, _⟩ | ⟨hf, _⟩ | ⟨hf, _⟩ | ⟨hf, _⟩ | ⟨hf, _⟩ <;>
    (rw [hf]; simp [pcText, Pc.text]; omega)
theorem formZ_right {i : Ins} (hr : rightB i = true) : 1 ≤ formZ i.op ∧ formZ i.op ≤ 8 := by
  have h0 : formZ i.op ≠ 0 := by
    intro h
    rw [right_none (by simp [h])] at hr
    exact absurd hr (by decide)
  have := formZ_range i.op
  omega
theorem showZ_yes {i : Ins} (h : rightB i = true) : showZ i = showI i := if_pos h
theorem showZ_no {i : Ins} (h : rightB i = false) : showZ i = [] := if_neg (by rw [h]; decide)
end Go.Proofs.YtfdegdbknponkaaDoor.Words

/- Contracts of the document's own r and ShowIns: what an instruction is shown as. No conditions. -/
namespace Go.Proofs.YtfdegdbknponkaaDoor.Words
set_option maxRecDepth 100000
open Go.RowKit Go.Shelf Go.Lib
set_option linter.unusedVariables false
set_option linter.unusedSimpArgs false

set_option maxHeartbeats 1000000 in
theorem refR_any (n : Int) (w : World) (h : -17179869184 ≤ n ∧ n ≤ 17179869184) : Calls Tryd.prog 41 #[.int .i64 n] w fun e w' => e = .returned (.string (txt (regS n))) ∧ w = w' := by
  have cD := dec_any n w h
  have hl := decN_len h
  have hj : (⟨#[114]⟩ : ByteArray) ++ txt (decN n) = txt (regS n) := by
    rw [show (⟨#[114]⟩ : ByteArray) = txt [114] from rfl, txt_join]; rfl
  have hsum : ¬ ((⟨#[114]⟩ : ByteArray).size + (txt (decN n)).size > 9223372036854775807) := by
    rw [show (⟨#[114]⟩ : ByteArray).size = 1 from rfl, txt_len]; omega
  have HJ := Lib.hid hj
  clear hl h
  generalize txt (decN n) = D at *
  generalize txt (regS n) = Z at *
  go_enter Tryd.func41, Tryd.ntmps41
  go_wp2_with fail
  refine cD.mono ?_; rintro e w1 ⟨rfl, rfl⟩
  go_wp2_with fail
  go_ret
  exact ⟨by first | rfl | rw [HJ.out], rfl⟩

theorem refShow_no (i : Ins) (w : World) (hr : rightB i = false) :
    Calls Tryd.prog 21 #[.agg #[.int .i64 i.op, .int .i64 i.d, .int .i64 i.a, .int .i64 i.b, .int .i64 i.imm]] w fun e w' => e = .returned (.string (txt (showZ i))) ∧ Below w.heap.size w w' := by
  rw [showZ_no hr]
  have HB := Lib.hid (fun x (h : Kept (w.alloc (.cells #[.int .i64 i.op, .int .i64 i.d, .int .i64 i.a, .int .i64 i.b, .int .i64 i.imm] 38)) x) => ((Below.refl w.heap.size w).alloc (Nat.le_refl _) _).trans (Below.mono h (by simp)))
  have cR := fun y => rightIns_any i y
  rw [hr] at cR
  have CR := Lib.hid cR
  clear cR
  go_enter Tryd.func21, Tryd.ntmps21
  go_wp2_with fail
  refine (CR.out _).mono ?_; rintro e w1 ⟨rfl, hb1⟩
  go_wp2_with fail
  go_ret
  exact ⟨by first | rfl | simp, HB.out _ (Kept.to (Kept.refl _) hb1)⟩


set_option maxHeartbeats 4000000 in
theorem refShow_1 (i : Ins) (w : World) (hr : rightB i = true) (hf : formZ i.op = 1) :
    Calls Tryd.prog 21 #[.agg #[.int .i64 i.op, .int .i64 i.d, .int .i64 i.a, .int .i64 i.b, .int .i64 i.imm]] w fun e w' => e = .returned (.string (txt (showZ i))) ∧ Below w.heap.size w w' := by
  rw [showZ_yes hr]
  obtain ⟨ho, hd, ha, hb, hi⟩ := right_range hr
  have hform := showI_1 hf hd ha hb
  have l0 := nameN_len ho
  have lD := regS_len hd
  have lA := regS_len ha
  have lB := regS_len hb
  obtain ⟨X, hX⟩ : ∃ X, X = txt (nameN i.op) := ⟨_, rfl⟩
  obtain ⟨RD, hRD⟩ : ∃ R, R = txt (regS i.d) := ⟨_, rfl⟩
  obtain ⟨RA, hRA⟩ : ∃ R, R = txt (regS i.a) := ⟨_, rfl⟩
  obtain ⟨RB, hRB⟩ : ∃ R, R = txt (regS i.b) := ⟨_, rfl⟩
  obtain ⟨Z, hZ⟩ : ∃ Z, Z = txt (showI i) := ⟨_, rfl⟩
  rw [← hZ]
  have s0 : X.size ≤ 4 := by rw [hX, txt_len]; exact l0
  have sD : RD.size ≤ 3 := by rw [hRD, txt_len]; exact lD
  have sA : RA.size ≤ 3 := by rw [hRA, txt_len]; exact lA
  have sB : RB.size ≤ 3 := by rw [hRB, txt_len]; exact lB
  have hj : ((((((X ++ (⟨#[32]⟩ : ByteArray)) ++ RD) ++ (⟨#[44, 32]⟩ : ByteArray)) ++ RA) ++ (⟨#[44, 32]⟩ : ByteArray)) ++ RB) = Z := by rw [hZ, hform, ← txt_join, ← txt_join, ← txt_join, ← txt_join, ← txt_join, ← txt_join, ← hX, ← hRD, ← hRA, ← hRB]; try rfl
  have u0 : ¬ ((X).size + ((⟨#[32]⟩ : ByteArray)).size > 9223372036854775807) := by rw [show (⟨#[32]⟩ : ByteArray).size = 1 from rfl]; omega
  have u1 : ¬ (((X ++ (⟨#[32]⟩ : ByteArray))).size + (RD).size > 9223372036854775807) := by rw [ByteArray.size_append, show (⟨#[32]⟩ : ByteArray).size = 1 from rfl]; omega
  have u2 : ¬ ((((X ++ (⟨#[32]⟩ : ByteArray)) ++ RD)).size + ((⟨#[44, 32]⟩ : ByteArray)).size > 9223372036854775807) := by rw [ByteArray.size_append, ByteArray.size_append, show (⟨#[32]⟩ : ByteArray).size = 1 from rfl, show (⟨#[44, 32]⟩ : ByteArray).size = 2 from rfl]; omega
  have u3 : ¬ (((((X ++ (⟨#[32]⟩ : ByteArray)) ++ RD) ++ (⟨#[44, 32]⟩ : ByteArray))).size + (RA).size > 9223372036854775807) := by rw [ByteArray.size_append, ByteArray.size_append, ByteArray.size_append, show (⟨#[32]⟩ : ByteArray).size = 1 from rfl, show (⟨#[44, 32]⟩ : ByteArray).size = 2 from rfl]; omega
  have u4 : ¬ ((((((X ++ (⟨#[32]⟩ : ByteArray)) ++ RD) ++ (⟨#[44, 32]⟩ : ByteArray)) ++ RA)).size + ((⟨#[44, 32]⟩ : ByteArray)).size > 9223372036854775807) := by rw [ByteArray.size_append, ByteArray.size_append, ByteArray.size_append, ByteArray.size_append, show (⟨#[32]⟩ : ByteArray).size = 1 from rfl, show (⟨#[44, 32]⟩ : ByteArray).size = 2 from rfl]; omega
  have u5 : ¬ (((((((X ++ (⟨#[32]⟩ : ByteArray)) ++ RD) ++ (⟨#[44, 32]⟩ : ByteArray)) ++ RA) ++ (⟨#[44, 32]⟩ : ByteArray))).size + (RB).size > 9223372036854775807) := by rw [ByteArray.size_append, ByteArray.size_append, ByteArray.size_append, ByteArray.size_append, ByteArray.size_append, show (⟨#[32]⟩ : ByteArray).size = 1 from rfl, show (⟨#[44, 32]⟩ : ByteArray).size = 2 from rfl]; omega
  have cRD := fun y => refR_any i.d y (by omega)
  rw [← hRD] at cRD
  have cRA := fun y => refR_any i.a y (by omega)
  rw [← hRA] at cRA
  have cRB := fun y => refR_any i.b y (by omega)
  rw [← hRB] at cRB
  have CRD := Lib.hid cRD
  clear cRD
  have CRA := Lib.hid cRA
  clear cRA
  have CRB := Lib.hid cRB
  clear cRB
  have HJ := Lib.hid hj
  have cI := fun y => rightIns_any i y
  rw [hr] at cI
  have CI := Lib.hid cI
  have HB := Lib.hid (fun x (h : Kept (w.alloc (.cells #[.int .i64 i.op, .int .i64 i.d, .int .i64 i.a, .int .i64 i.b, .int .i64 i.imm] 38)) x) => ((Below.refl w.heap.size w).alloc (Nat.le_refl _) _).trans (Below.mono h (by simp)))
  have hB : w.heap.size < (w.alloc (.cells #[.int .i64 i.op, .int .i64 i.d, .int .i64 i.a, .int .i64 i.b, .int .i64 i.imm] 38)).heap.size := by simp
  have c0 : (w.alloc (.cells #[.int .i64 i.op, .int .i64 i.d, .int .i64 i.a, .int .i64 i.b, .int .i64 i.imm] 38)).cell? ⟨w.heap.size, 0, none⟩ = some (.int .i64 i.op) := by go_simp
  have c1 : (w.alloc (.cells #[.int .i64 i.op, .int .i64 i.d, .int .i64 i.a, .int .i64 i.b, .int .i64 i.imm] 38)).cell? ⟨w.heap.size, 1, none⟩ = some (.int .i64 i.d) := by go_simp
  have c2 : (w.alloc (.cells #[.int .i64 i.op, .int .i64 i.d, .int .i64 i.a, .int .i64 i.b, .int .i64 i.imm] 38)).cell? ⟨w.heap.size, 2, none⟩ = some (.int .i64 i.a) := by go_simp
  have c3 : (w.alloc (.cells #[.int .i64 i.op, .int .i64 i.d, .int .i64 i.a, .int .i64 i.b, .int .i64 i.imm] 38)).cell? ⟨w.heap.size, 3, none⟩ = some (.int .i64 i.b) := by go_simp
  have c4 : (w.alloc (.cells #[.int .i64 i.op, .int .i64 i.d, .int .i64 i.a, .int .i64 i.b, .int .i64 i.imm] 38)).cell? ⟨w.heap.size, 4, none⟩ = some (.int .i64 i.imm) := by go_simp
  have C0 := Lib.hid (fun x (h : Kept _ x) => h.cell hB c0)
  have C1 := Lib.hid (fun x (h : Kept _ x) => h.cell hB c1)
  have C2 := Lib.hid (fun x (h : Kept _ x) => h.cell hB c2)
  have C3 := Lib.hid (fun x (h : Kept _ x) => h.cell hB c3)
  have C4 := Lib.hid (fun x (h : Kept _ x) => h.cell hB c4)
  obtain ⟨n, hk⟩ : ∃ n : Nat, i.op - 1 = (n : Int) := ⟨(i.op - 1).toNat, by omega⟩
  have HK41 := Lib.hid (show n < 41 by omega)
  have hname : namesZ.getD n [] = nameN i.op := by unfold nameN; rw [hk]; rfl
  have HN := Lib.hid hname
  have hn0 : (0 : Int) ≤ n := by omega
  have hn41 : (n : Int) < 41 := by omega
  have hwn : IntKind.i64.wrap (n : Int) = n := by rw [IntKind.wrap_i64]; omega
  have HX := Lib.hid hX
  clear cI hform ho hd ha hb hi l0 lD lA lB hRD hRA hRB sD sA sB hX hZ hr c0 c1 c2 c3 c4 hB hname s0 
  go_enter Tryd.func21, Tryd.ntmps21
  go_wp2_with fail
  refine (CI.out _).mono ?_; rintro e w1 ⟨rfl, hb1⟩
  generalize w.alloc (.cells #[.int .i64 i.op, .int .i64 i.d, .int .i64 i.a, .int .i64 i.b, .int .i64 i.imm] 38) = W at *
  have k1 : Kept W w1 := Kept.to (Kept.refl _) hb1
  clear hb1
  go_wp2_with fail
  have j0 : Kept W w1.drew := k1.drew
  have cp0 := C0.out
  refine wp_region_lin [(1, true), (2, true), (3, true), (0, false), (4, true), (5, true), (6, true)]
    (by kernel_rfl) (by kernel_rfl) rfl (by kernel_rfl) (Kept W) ?_
  simp only [List.map_cons, List.map_nil, List.getElem?_toArray, List.getElem?_cons_succ, List.getElem?_cons_zero]
  iterate 3 (refine lin_take (v := ?_) (by assumption) (by rfl) ?_ ?_; rotate_left; (intro x hx; (try dsimp only at hx); go_simp; try (with_reducible rfl)); (simp only [Act.put, List.setIfInBounds_toArray, List.set_cons_zero, List.set_cons_succ]))
  refine lin_call (by assumption) (by rfl) (fun K hK => ?_)
  go_simp
  refine (refNames_any _).mono ?_
  rintro e w2 ⟨A2, c2, rfl, hr2, hb2⟩
  obtain ⟨g2, o2, rfl, hg2, _⟩ := hr2.at_ (by omega)
  have j2 := j0.to hb2
  have nm := names_row (n := 41) hr2 HK41.out
  rw [HN.out, ← HX.out] at nm
  have NM := Lib.hid (fun x (h : Kept W x ∧ Kept w2 x) => h.2.cell hg2 nm)
  clear nm hr2 hb2
  go_wp2_with fail
  refine hK.out _ _ j2 (fun _ => ?_)
  clear hK K
  try simp only [Act.put, List.setIfInBounds_toArray, List.set_cons_zero, List.set_cons_succ]
  refine lin_more (S' := fun x => Kept W x ∧ Kept w2 x) (fun _ h => h.1) ?_
  have js : Kept W w2 ∧ Kept w2 w2 := ⟨j2, Kept.refl _⟩
  have nm := NM.out
  iterate 3 (refine lin_take (v := ?_) (by assumption) (by rfl) ?_ ?_; rotate_left; (intro x hx; (try dsimp only at hx); go_simp; try (with_reducible rfl)); (try simp only [Act.put, List.setIfInBounds_toArray, List.set_cons_zero, List.set_cons_succ]))
  refine lin_done ?_
  clear cp0 nm js
  have K2 := Lib.hid (HB.out _ j2)
  have d0 := C0.out _ j2
  have d1 := C1.out _ j2
  have d2 := C2.out _ j2
  have d3 := C3.out _ j2
  have d4 := C4.out _ j2
  clear j2 j0 k1
  go_wp2_with fail
  refine (refForm_any _ _).mono ?_; rintro e w3 ⟨rfl, rfl⟩
  rw [hf]
  go_wp2_with fail
  go_quiet (first | (go_at_call 41; refine quiet_mine7 (CRD.out _)) | (go_at_call 41; refine quiet_mine7 (CRA.out _)) | (go_at_call 41; refine quiet_mine7 (CRB.out _)))
  go_wp2_with fail
  go_ret
  exact ⟨by first | rfl | rw [HJ.out], by first | exact K2.out | exact K2.out.drew | exact Below.drewN_ K2.out _⟩

set_option maxHeartbeats 4000000 in
theorem refShow_2 (i : Ins) (w : World) (hr : rightB i = true) (hf : formZ i.op = 2) :
    Calls Tryd.prog 21 #[.agg #[.int .i64 i.op, .int .i64 i.d, .int .i64 i.a, .int .i64 i.b, .int .i64 i.imm]] w fun e w' => e = .returned (.string (txt (showZ i))) ∧ Below w.heap.size w w' := by
  rw [showZ_yes hr]
  obtain ⟨ho, hd, ha, hb, hi⟩ := right_range hr
  have hform := showI_2 hf hd ha
  have l0 := nameN_len ho
  have lD := regS_len hd
  have lA := regS_len ha
  have lN := decN_len8 hi
  obtain ⟨X, hX⟩ : ∃ X, X = txt (nameN i.op) := ⟨_, rfl⟩
  obtain ⟨RD, hRD⟩ : ∃ R, R = txt (regS i.d) := ⟨_, rfl⟩
  obtain ⟨RA, hRA⟩ : ∃ R, R = txt (regS i.a) := ⟨_, rfl⟩
  obtain ⟨DN, hDN⟩ : ∃ D, D = txt (decN i.imm) := ⟨_, rfl⟩
  obtain ⟨Z, hZ⟩ : ∃ Z, Z = txt (showI i) := ⟨_, rfl⟩
  rw [← hZ]
  have s0 : X.size ≤ 4 := by rw [hX, txt_len]; exact l0
  have sD : RD.size ≤ 3 := by rw [hRD, txt_len]; exact lD
  have sA : RA.size ≤ 3 := by rw [hRA, txt_len]; exact lA
  have sN : DN.size ≤ 12 := by rw [hDN, txt_len]; exact lN
  have hj : ((((((X ++ (⟨#[32]⟩ : ByteArray)) ++ RD) ++ (⟨#[44, 32]⟩ : ByteArray)) ++ RA) ++ (⟨#[44, 32]⟩ : ByteArray)) ++ DN) = Z := by rw [hZ, hform, ← txt_join, ← txt_join, ← txt_join, ← txt_join, ← txt_join, ← txt_join, ← hX, ← hRD, ← hRA, ← hDN]; try rfl
  have u0 : ¬ ((X).size + ((⟨#[32]⟩ : ByteArray)).size > 9223372036854775807) := by rw [show (⟨#[32]⟩ : ByteArray).size = 1 from rfl]; omega
  have u1 : ¬ (((X ++ (⟨#[32]⟩ : ByteArray))).size + (RD).size > 9223372036854775807) := by rw [ByteArray.size_append, show (⟨#[32]⟩ : ByteArray).size = 1 from rfl]; omega
  have u2 : ¬ ((((X ++ (⟨#[32]⟩ : ByteArray)) ++ RD)).size + ((⟨#[44, 32]⟩ : ByteArray)).size > 9223372036854775807) := by rw [ByteArray.size_append, ByteArray.size_append, show (⟨#[32]⟩ : ByteArray).size = 1 from rfl, show (⟨#[44, 32]⟩ : ByteArray).size = 2 from rfl]; omega
  have u3 : ¬ (((((X ++ (⟨#[32]⟩ : ByteArray)) ++ RD) ++ (⟨#[44, 32]⟩ : ByteArray))).size + (RA).size > 9223372036854775807) := by rw [ByteArray.size_append, ByteArray.size_append, ByteArray.size_append, show (⟨#[32]⟩ : ByteArray).size = 1 from rfl, show (⟨#[44, 32]⟩ : ByteArray).size = 2 from rfl]; omega
  have u4 : ¬ ((((((X ++ (⟨#[32]⟩ : ByteArray)) ++ RD) ++ (⟨#[44, 32]⟩ : ByteArray)) ++ RA)).size + ((⟨#[44, 32]⟩ : ByteArray)).size > 9223372036854775807) := by rw [ByteArray.size_append, ByteArray.size_append, ByteArray.size_append, ByteArray.size_append, show (⟨#[32]⟩ : ByteArray).size = 1 from rfl, show (⟨#[44, 32]⟩ : ByteArray).size = 2 from rfl]; omega
  have u5 : ¬ (((((((X ++ (⟨#[32]⟩ : ByteArray)) ++ RD) ++ (⟨#[44, 32]⟩ : ByteArray)) ++ RA) ++ (⟨#[44, 32]⟩ : ByteArray))).size + (DN).size > 9223372036854775807) := by rw [ByteArray.size_append, ByteArray.size_append, ByteArray.size_append, ByteArray.size_append, ByteArray.size_append, show (⟨#[32]⟩ : ByteArray).size = 1 from rfl, show (⟨#[44, 32]⟩ : ByteArray).size = 2 from rfl]; omega
  have cRD := fun y => refR_any i.d y (by omega)
  rw [← hRD] at cRD
  have cRA := fun y => refR_any i.a y (by omega)
  rw [← hRA] at cRA
  have cDN := fun y => dec_any i.imm y (by omega)
  rw [← hDN] at cDN
  have CRD := Lib.hid cRD
  clear cRD
  have CRA := Lib.hid cRA
  clear cRA
  have CDN := Lib.hid cDN
  clear cDN
  have HJ := Lib.hid hj
  have cI := fun y => rightIns_any i y
  rw [hr] at cI
  have CI := Lib.hid cI
  have HB := Lib.hid (fun x (h : Kept (w.alloc (.cells #[.int .i64 i.op, .int .i64 i.d, .int .i64 i.a, .int .i64 i.b, .int .i64 i.imm] 38)) x) => ((Below.refl w.heap.size w).alloc (Nat.le_refl _) _).trans (Below.mono h (by simp)))
  have hB : w.heap.size < (w.alloc (.cells #[.int .i64 i.op, .int .i64 i.d, .int .i64 i.a, .int .i64 i.b, .int .i64 i.imm] 38)).heap.size := by simp
  have c0 : (w.alloc (.cells #[.int .i64 i.op, .int .i64 i.d, .int .i64 i.a, .int .i64 i.b, .int .i64 i.imm] 38)).cell? ⟨w.heap.size, 0, none⟩ = some (.int .i64 i.op) := by go_simp
  have c1 : (w.alloc (.cells #[.int .i64 i.op, .int .i64 i.d, .int .i64 i.a, .int .i64 i.b, .int .i64 i.imm] 38)).cell? ⟨w.heap.size, 1, none⟩ = some (.int .i64 i.d) := by go_simp
  have c2 : (w.alloc (.cells #[.int .i64 i.op, .int .i64 i.d, .int .i64 i.a, .int .i64 i.b, .int .i64 i.imm] 38)).cell? ⟨w.heap.size, 2, none⟩ = some (.int .i64 i.a) := by go_simp
  have c3 : (w.alloc (.cells #[.int .i64 i.op, .int .i64 i.d, .int .i64 i.a, .int .i64 i.b, .int .i64 i.imm] 38)).cell? ⟨w.heap.size, 3, none⟩ = some (.int .i64 i.b) := by go_simp
  have c4 : (w.alloc (.cells #[.int .i64 i.op, .int .i64 i.d, .int .i64 i.a, .int .i64 i.b, .int .i64 i.imm] 38)).cell? ⟨w.heap.size, 4, none⟩ = some (.int .i64 i.imm) := by go_simp
  have C0 := Lib.hid (fun x (h : Kept _ x) => h.cell hB c0)
  have C1 := Lib.hid (fun x (h : Kept _ x) => h.cell hB c1)
  have C2 := Lib.hid (fun x (h : Kept _ x) => h.cell hB c2)
  have C3 := Lib.hid (fun x (h : Kept _ x) => h.cell hB c3)
  have C4 := Lib.hid (fun x (h : Kept _ x) => h.cell hB c4)
  obtain ⟨n, hk⟩ : ∃ n : Nat, i.op - 1 = (n : Int) := ⟨(i.op - 1).toNat, by omega⟩
  have HK41 := Lib.hid (show n < 41 by omega)
  have hname : namesZ.getD n [] = nameN i.op := by unfold nameN; rw [hk]; rfl
  have HN := Lib.hid hname
  have hn0 : (0 : Int) ≤ n := by omega
  have hn41 : (n : Int) < 41 := by omega
  have hwn : IntKind.i64.wrap (n : Int) = n := by rw [IntKind.wrap_i64]; omega
  have HX := Lib.hid hX
  clear cI hform ho hd ha hb hi l0 lD lA hRD hRA sD sA hX hZ hr c0 c1 c2 c3 c4 hB hname s0 lN hDN sN
  go_enter Tryd.func21, Tryd.ntmps21
  go_wp2_with fail
  refine (CI.out _).mono ?_; rintro e w1 ⟨rfl, hb1⟩
  generalize w.alloc (.cells #[.int .i64 i.op, .int .i64 i.d, .int .i64 i.a, .int .i64 i.b, .int .i64 i.imm] 38) = W at *
  have k1 : Kept W w1 := Kept.to (Kept.refl _) hb1
  clear hb1
  go_wp2_with fail
  have j0 : Kept W w1.drew := k1.drew
  have cp0 := C0.out
  refine wp_region_lin [(1, true), (2, true), (3, true), (0, false), (4, true), (5, true), (6, true)]
    (by kernel_rfl) (by kernel_rfl) rfl (by kernel_rfl) (Kept W) ?_
  simp only [List.map_cons, List.map_nil, List.getElem?_toArray, List.getElem?_cons_succ, List.getElem?_cons_zero]
  iterate 3 (refine lin_take (v := ?_) (by assumption) (by rfl) ?_ ?_; rotate_left; (intro x hx; (try dsimp only at hx); go_simp; try (with_reducible rfl)); (simp only [Act.put, List.setIfInBounds_toArray, List.set_cons_zero, List.set_cons_succ]))
  refine lin_call (by assumption) (by rfl) (fun K hK => ?_)
  go_simp
  refine (refNames_any _).mono ?_
  rintro e w2 ⟨A2, c2, rfl, hr2, hb2⟩
  obtain ⟨g2, o2, rfl, hg2, _⟩ := hr2.at_ (by omega)
  have j2 := j0.to hb2
  have nm := names_row (n := 41) hr2 HK41.out
  rw [HN.out, ← HX.out] at nm
  have NM := Lib.hid (fun x (h : Kept W x ∧ Kept w2 x) => h.2.cell hg2 nm)
  clear nm hr2 hb2
  go_wp2_with fail
  refine hK.out _ _ j2 (fun _ => ?_)
  clear hK K
  try simp only [Act.put, List.setIfInBounds_toArray, List.set_cons_zero, List.set_cons_succ]
  refine lin_more (S' := fun x => Kept W x ∧ Kept w2 x) (fun _ h => h.1) ?_
  have js : Kept W w2 ∧ Kept w2 w2 := ⟨j2, Kept.refl _⟩
  have nm := NM.out
  iterate 3 (refine lin_take (v := ?_) (by assumption) (by rfl) ?_ ?_; rotate_left; (intro x hx; (try dsimp only at hx); go_simp; try (with_reducible rfl)); (try simp only [Act.put, List.setIfInBounds_toArray, List.set_cons_zero, List.set_cons_succ]))
  refine lin_done ?_
  clear cp0 nm js
  have K2 := Lib.hid (HB.out _ j2)
  have d0 := C0.out _ j2
  have d1 := C1.out _ j2
  have d2 := C2.out _ j2
  have d3 := C3.out _ j2
  have d4 := C4.out _ j2
  clear j2 j0 k1
  go_wp2_with fail
  refine (refForm_any _ _).mono ?_; rintro e w3 ⟨rfl, rfl⟩
  rw [hf]
  go_wp2_with fail
  go_quiet (first | (go_at_call 41; refine quiet_mine7 (CRD.out _)) | (go_at_call 41; refine quiet_mine7 (CRA.out _)) | (go_at_call 20; refine quiet_mine7 (CDN.out _)))
  go_wp2_with fail
  go_ret
  exact ⟨by first | rfl | rw [HJ.out], by first | exact K2.out | exact K2.out.drew | exact Below.drewN_ K2.out _⟩

set_option maxHeartbeats 4000000 in
theorem refShow_3 (i : Ins) (w : World) (hr : rightB i = true) (hf : formZ i.op = 3) :
    Calls Tryd.prog 21 #[.agg #[.int .i64 i.op, .int .i64 i.d, .int .i64 i.a, .int .i64 i.b, .int .i64 i.imm]] w fun e w' => e = .returned (.string (txt (showZ i))) ∧ Below w.heap.size w w' := by
  rw [showZ_yes hr]
  obtain ⟨ho, hd, ha, hb, hi⟩ := right_range hr
  have hform := showI_3 hf hd
  have l0 := nameN_len ho
  have lD := regS_len hd
  have lN := decN_len8 hi
  obtain ⟨X, hX⟩ : ∃ X, X = txt (nameN i.op) := ⟨_, rfl⟩
  obtain ⟨RD, hRD⟩ : ∃ R, R = txt (regS i.d) := ⟨_, rfl⟩
  obtain ⟨DN, hDN⟩ : ∃ D, D = txt (decN i.imm) := ⟨_, rfl⟩
  obtain ⟨Z, hZ⟩ : ∃ Z, Z = txt (showI i) := ⟨_, rfl⟩
  rw [← hZ]
  have s0 : X.size ≤ 4 := by rw [hX, txt_len]; exact l0
  have sD : RD.size ≤ 3 := by rw [hRD, txt_len]; exact lD
  have sN : DN.size ≤ 12 := by rw [hDN, txt_len]; exact lN
  have hj : ((((X ++ (⟨#[32]⟩ : ByteArray)) ++ RD) ++ (⟨#[44, 32]⟩ : ByteArray)) ++ DN) = Z := by rw [hZ, hform, ← txt_join, ← txt_join, ← txt_join, ← txt_join, ← hX, ← hRD, ← hDN]; try rfl
  have u0 : ¬ ((X).size + ((⟨#[32]⟩ : ByteArray)).size > 9223372036854775807) := by rw [show (⟨#[32]⟩ : ByteArray).size = 1 from rfl]; omega
  have u1 : ¬ (((X ++ (⟨#[32]⟩ : ByteArray))).size + (RD).size > 9223372036854775807) := by rw [ByteArray.size_append, show (⟨#[32]⟩ : ByteArray).size = 1 from rfl]; omega
  have u2 : ¬ ((((X ++ (⟨#[32]⟩ : ByteArray)) ++ RD)).size + ((⟨#[44, 32]⟩ : ByteArray)).size > 9223372036854775807) := by rw [ByteArray.size_append, ByteArray.size_append, show (⟨#[32]⟩ : ByteArray).size = 1 from rfl, show (⟨#[44, 32]⟩ : ByteArray).size = 2 from rfl]; omega
  have u3 : ¬ (((((X ++ (⟨#[32]⟩ : ByteArray)) ++ RD) ++ (⟨#[44, 32]⟩ : ByteArray))).size + (DN).size > 9223372036854775807) := by rw [ByteArray.size_append, ByteArray.size_append, ByteArray.size_append, show (⟨#[32]⟩ : ByteArray).size = 1 from rfl, show (⟨#[44, 32]⟩ : ByteArray).size = 2 from rfl]; omega
  have cRD := fun y => refR_any i.d y (by omega)
  rw [← hRD] at cRD
  have cDN := fun y => dec_any i.imm y (by omega)
  rw [← hDN] at cDN
  have CRD := Lib.hid cRD
  clear cRD
  have CDN := Lib.hid cDN
  clear cDN
  have HJ := Lib.hid hj
  have cI := fun y => rightIns_any i y
  rw [hr] at cI
  have CI := Lib.hid cI
  have HB := Lib.hid (fun x (h : Kept (w.alloc (.cells #[.int .i64 i.op, .int .i64 i.d, .int .i64 i.a, .int .i64 i.b, .int .i64 i.imm] 38)) x) => ((Below.refl w.heap.size w).alloc (Nat.le_refl _) _).trans (Below.mono h (by simp)))
  have hB : w.heap.size < (w.alloc (.cells #[.int .i64 i.op, .int .i64 i.d, .int .i64 i.a, .int .i64 i.b, .int .i64 i.imm] 38)).heap.size := by simp
  have c0 : (w.alloc (.cells #[.int .i64 i.op, .int .i64 i.d, .int .i64 i.a, .int .i64 i.b, .int .i64 i.imm] 38)).cell? ⟨w.heap.size, 0, none⟩ = some (.int .i64 i.op) := by go_simp
  have c1 : (w.alloc (.cells #[.int .i64 i.op, .int .i64 i.d, .int .i64 i.a, .int .i64 i.b, .int .i64 i.imm] 38)).cell? ⟨w.heap.size, 1, none⟩ = some (.int .i64 i.d) := by go_simp
  have c2 : (w.alloc (.cells #[.int .i64 i.op, .int .i64 i.d, .int .i64 i.a, .int .i64 i.b, .int .i64 i.imm] 38)).cell? ⟨w.heap.size, 2, none⟩ = some (.int .i64 i.a) := by go_simp
  have c3 : (w.alloc (.cells #[.int .i64 i.op, .int .i64 i.d, .int .i64 i.a, .int .i64 i.b, .int .i64 i.imm] 38)).cell? ⟨w.heap.size, 3, none⟩ = some (.int .i64 i.b) := by go_simp
  have c4 : (w.alloc (.cells #[.int .i64 i.op, .int .i64 i.d, .int .i64 i.a, .int .i64 i.b, .int .i64 i.imm] 38)).cell? ⟨w.heap.size, 4, none⟩ = some (.int .i64 i.imm) := by go_simp
  have C0 := Lib.hid (fun x (h : Kept _ x) => h.cell hB c0)
  have C1 := Lib.hid (fun x (h : Kept _ x) => h.cell hB c1)
  have C2 := Lib.hid (fun x (h : Kept _ x) => h.cell hB c2)
  have C3 := Lib.hid (fun x (h : Kept _ x) => h.cell hB c3)
  have C4 := Lib.hid (fun x (h : Kept _ x) => h.cell hB c4)
  obtain ⟨n, hk⟩ : ∃ n : Nat, i.op - 1 = (n : Int) := ⟨(i.op - 1).toNat, by omega⟩
  have HK41 := Lib.hid (show n < 41 by omega)
  have hname : namesZ.getD n [] = nameN i.op := by unfold nameN; rw [hk]; rfl
  have HN := Lib.hid hname
  have hn0 : (0 : Int) ≤ n := by omega
  have hn41 : (n : Int) < 41 := by omega
  have hwn : IntKind.i64.wrap (n : Int) = n := by rw [IntKind.wrap_i64]; omega
  have HX := Lib.hid hX
  clear cI hform ho hd ha hb hi l0 lD hRD sD hX hZ hr c0 c1 c2 c3 c4 hB hname s0 lN hDN sN
  go_enter Tryd.func21, Tryd.ntmps21
  go_wp2_with fail
  refine (CI.out _).mono ?_; rintro e w1 ⟨rfl, hb1⟩
  generalize w.alloc (.cells #[.int .i64 i.op, .int .i64 i.d, .int .i64 i.a, .int .i64 i.b, .int .i64 i.imm] 38) = W at *
  have k1 : Kept W w1 := Kept.to (Kept.refl _) hb1
  clear hb1
  go_wp2_with fail
  have j0 : Kept W w1.drew := k1.drew
  have cp0 := C0.out
  refine wp_region_lin [(1, true), (2, true), (3, true), (0, false), (4, true), (5, true), (6, true)]
    (by kernel_rfl) (by kernel_rfl) rfl (by kernel_rfl) (Kept W) ?_
  simp only [List.map_cons, List.map_nil, List.getElem?_toArray, List.getElem?_cons_succ, List.getElem?_cons_zero]
  iterate 3 (refine lin_take (v := ?_) (by assumption) (by rfl) ?_ ?_; rotate_left; (intro x hx; (try dsimp only at hx); go_simp; try (with_reducible rfl)); (simp only [Act.put, List.setIfInBounds_toArray, List.set_cons_zero, List.set_cons_succ]))
  refine lin_call (by assumption) (by rfl) (fun K hK => ?_)
  go_simp
  refine (refNames_any _).mono ?_
  rintro e w2 ⟨A2, c2, rfl, hr2, hb2⟩
  obtain ⟨g2, o2, rfl, hg2, _⟩ := hr2.at_ (by omega)
  have j2 := j0.to hb2
  have nm := names_row (n := 41) hr2 HK41.out
  rw [HN.out, ← HX.out] at nm
  have NM := Lib.hid (fun x (h : Kept W x ∧ Kept w2 x) => h.2.cell hg2 nm)
  clear nm hr2 hb2
  go_wp2_with fail
  refine hK.out _ _ j2 (fun _ => ?_)
  clear hK K
  try simp only [Act.put, List.setIfInBounds_toArray, List.set_cons_zero, List.set_cons_succ]
  refine lin_more (S' := fun x => Kept W x ∧ Kept w2 x) (fun _ h => h.1) ?_
  have js : Kept W w2 ∧ Kept w2 w2 := ⟨j2, Kept.refl _⟩
  have nm := NM.out
  iterate 3 (refine lin_take (v := ?_) (by assumption) (by rfl) ?_ ?_; rotate_left; (intro x hx; (try dsimp only at hx); go_simp; try (with_reducible rfl)); (try simp only [Act.put, List.setIfInBounds_toArray, List.set_cons_zero, List.set_cons_succ]))
  refine lin_done ?_
  clear cp0 nm js
  have K2 := Lib.hid (HB.out _ j2)
  have d0 := C0.out _ j2
  have d1 := C1.out _ j2
  have d2 := C2.out _ j2
  have d3 := C3.out _ j2
  have d4 := C4.out _ j2
  clear j2 j0 k1
  go_wp2_with fail
  refine (refForm_any _ _).mono ?_; rintro e w3 ⟨rfl, rfl⟩
  rw [hf]
  go_wp2_with fail
  go_quiet (first | (go_at_call 41; refine quiet_mine7 (CRD.out _)) | (go_at_call 20; refine quiet_mine7 (CDN.out _)))
  go_wp2_with fail
  go_ret
  exact ⟨by first | rfl | rw [HJ.out], by first | exact K2.out | exact K2.out.drew | exact Below.drewN_ K2.out _⟩

set_option maxHeartbeats 4000000 in
theorem refShow_4 (i : Ins) (w : World) (hr : rightB i = true) (hf : formZ i.op = 4) :
    Calls Tryd.prog 21 #[.agg #[.int .i64 i.op, .int .i64 i.d, .int .i64 i.a, .int .i64 i.b, .int .i64 i.imm]] w fun e w' => e = .returned (.string (txt (showZ i))) ∧ Below w.heap.size w w' := by
  rw [showZ_yes hr]
  obtain ⟨ho, hd, ha, hb, hi⟩ := right_range hr
  have hform := showI_4 hf hd ha
  have l0 := nameN_len ho
  have lD := regS_len hd
  have lA := regS_len ha
  have lN := decN_len8 hi
  obtain ⟨X, hX⟩ : ∃ X, X = txt (nameN i.op) := ⟨_, rfl⟩
  obtain ⟨RD, hRD⟩ : ∃ R, R = txt (regS i.d) := ⟨_, rfl⟩
  obtain ⟨RA, hRA⟩ : ∃ R, R = txt (regS i.a) := ⟨_, rfl⟩
  obtain ⟨DN, hDN⟩ : ∃ D, D = txt (decN i.imm) := ⟨_, rfl⟩
  obtain ⟨Z, hZ⟩ : ∃ Z, Z = txt (showI i) := ⟨_, rfl⟩
  rw [← hZ]
  have s0 : X.size ≤ 4 := by rw [hX, txt_len]; exact l0
  have sD : RD.size ≤ 3 := by rw [hRD, txt_len]; exact lD
  have sA : RA.size ≤ 3 := by rw [hRA, txt_len]; exact lA
  have sN : DN.size ≤ 12 := by rw [hDN, txt_len]; exact lN
  have hj : (((((((X ++ (⟨#[32]⟩ : ByteArray)) ++ RD) ++ (⟨#[44, 32]⟩ : ByteArray)) ++ DN) ++ (⟨#[40]⟩ : ByteArray)) ++ RA) ++ (⟨#[41]⟩ : ByteArray)) = Z := by rw [hZ, hform, ← txt_join, ← txt_join, ← txt_join, ← txt_join, ← txt_join, ← txt_join, ← txt_join, ← hX, ← hRD, ← hRA, ← hDN]; try rfl
  have u0 : ¬ ((X).size + ((⟨#[32]⟩ : ByteArray)).size > 9223372036854775807) := by rw [show (⟨#[32]⟩ : ByteArray).size = 1 from rfl]; omega
  have u1 : ¬ (((X ++ (⟨#[32]⟩ : ByteArray))).size + (RD).size > 9223372036854775807) := by rw [ByteArray.size_append, show (⟨#[32]⟩ : ByteArray).size = 1 from rfl]; omega
  have u2 : ¬ ((((X ++ (⟨#[32]⟩ : ByteArray)) ++ RD)).size + ((⟨#[44, 32]⟩ : ByteArray)).size > 9223372036854775807) := by rw [ByteArray.size_append, ByteArray.size_append, show (⟨#[32]⟩ : ByteArray).size = 1 from rfl, show (⟨#[44, 32]⟩ : ByteArray).size = 2 from rfl]; omega
  have u3 : ¬ (((((X ++ (⟨#[32]⟩ : ByteArray)) ++ RD) ++ (⟨#[44, 32]⟩ : ByteArray))).size + (DN).size > 9223372036854775807) := by rw [ByteArray.size_append, ByteArray.size_append, ByteArray.size_append, show (⟨#[32]⟩ : ByteArray).size = 1 from rfl, show (⟨#[44, 32]⟩ : ByteArray).size = 2 from rfl]; omega
  have u4 : ¬ ((((((X ++ (⟨#[32]⟩ : ByteArray)) ++ RD) ++ (⟨#[44, 32]⟩ : ByteArray)) ++ DN)).size + ((⟨#[40]⟩ : ByteArray)).size > 9223372036854775807) := by rw [ByteArray.size_append, ByteArray.size_append, ByteArray.size_append, ByteArray.size_append, show (⟨#[32]⟩ : ByteArray).size = 1 from rfl, show (⟨#[44, 32]⟩ : ByteArray).size = 2 from rfl, show (⟨#[40]⟩ : ByteArray).size = 1 from rfl]; omega
  have u5 : ¬ (((((((X ++ (⟨#[32]⟩ : ByteArray)) ++ RD) ++ (⟨#[44, 32]⟩ : ByteArray)) ++ DN) ++ (⟨#[40]⟩ : ByteArray))).size + (RA).size > 9223372036854775807) := by rw [ByteArray.size_append, ByteArray.size_append, ByteArray.size_append, ByteArray.size_append, ByteArray.size_append, show (⟨#[32]⟩ : ByteArray).size = 1 from rfl, show (⟨#[44, 32]⟩ : ByteArray).size = 2 from rfl, show (⟨#[40]⟩ : ByteArray).size = 1 from rfl]; omega
  have u6 : ¬ ((((((((X ++ (⟨#[32]⟩ : ByteArray)) ++ RD) ++ (⟨#[44, 32]⟩ : ByteArray)) ++ DN) ++ (⟨#[40]⟩ : ByteArray)) ++ RA)).size + ((⟨#[41]⟩ : ByteArray)).size > 9223372036854775807) := by rw [ByteArray.size_append, ByteArray.size_append, ByteArray.size_append, ByteArray.size_append, ByteArray.size_append, ByteArray.size_append, show (⟨#[32]⟩ : ByteArray).size = 1 from rfl, show (⟨#[44, 32]⟩ : ByteArray).size = 2 from rfl, show (⟨#[40]⟩ : ByteArray).size = 1 from rfl, show (⟨#[41]⟩ : ByteArray).size = 1 from rfl]; omega
  have cRD := fun y => refR_any i.d y (by omega)
  rw [← hRD] at cRD
  have cRA := fun y => refR_any i.a y (by omega)
  rw [← hRA] at cRA
  have cDN := fun y => dec_any i.imm y (by omega)
  rw [← hDN] at cDN
  have CRD := Lib.hid cRD
  clear cRD
  have CRA := Lib.hid cRA
  clear cRA
  have CDN := Lib.hid cDN
  clear cDN
  have HJ := Lib.hid hj
  have cI := fun y => rightIns_any i y
  rw [hr] at cI
  have CI := Lib.hid cI
  have HB := Lib.hid (fun x (h : Kept (w.alloc (.cells #[.int .i64 i.op, .int .i64 i.d, .int .i64 i.a, .int .i64 i.b, .int .i64 i.imm] 38)) x) => ((Below.refl w.heap.size w).alloc (Nat.le_refl _) _).trans (Below.mono h (by simp)))
  have hB : w.heap.size < (w.alloc (.cells #[.int .i64 i.op, .int .i64 i.d, .int .i64 i.a, .int .i64 i.b, .int .i64 i.imm] 38)).heap.size := by simp
  have c0 : (w.alloc (.cells #[.int .i64 i.op, .int .i64 i.d, .int .i64 i.a, .int .i64 i.b, .int .i64 i.imm] 38)).cell? ⟨w.heap.size, 0, none⟩ = some (.int .i64 i.op) := by go_simp
  have c1 : (w.alloc (.cells #[.int .i64 i.op, .int .i64 i.d, .int .i64 i.a, .int .i64 i.b, .int .i64 i.imm] 38)).cell? ⟨w.heap.size, 1, none⟩ = some (.int .i64 i.d) := by go_simp
  have c2 : (w.alloc (.cells #[.int .i64 i.op, .int .i64 i.d, .int .i64 i.a, .int .i64 i.b, .int .i64 i.imm] 38)).cell? ⟨w.heap.size, 2, none⟩ = some (.int .i64 i.a) := by go_simp
  have c3 : (w.alloc (.cells #[.int .i64 i.op, .int .i64 i.d, .int .i64 i.a, .int .i64 i.b, .int .i64 i.imm] 38)).cell? ⟨w.heap.size, 3, none⟩ = some (.int .i64 i.b) := by go_simp
  have c4 : (w.alloc (.cells #[.int .i64 i.op, .int .i64 i.d, .int .i64 i.a, .int .i64 i.b, .int .i64 i.imm] 38)).cell? ⟨w.heap.size, 4, none⟩ = some (.int .i64 i.imm) := by go_simp
  have C0 := Lib.hid (fun x (h : Kept _ x) => h.cell hB c0)
  have C1 := Lib.hid (fun x (h : Kept _ x) => h.cell hB c1)
  have C2 := Lib.hid (fun x (h : Kept _ x) => h.cell hB c2)
  have C3 := Lib.hid (fun x (h : Kept _ x) => h.cell hB c3)
  have C4 := Lib.hid (fun x (h : Kept _ x) => h.cell hB c4)
  obtain ⟨n, hk⟩ : ∃ n : Nat, i.op - 1 = (n : Int) := ⟨(i.op - 1).toNat, by omega⟩
  have HK41 := Lib.hid (show n < 41 by omega)
  have hname : namesZ.getD n [] = nameN i.op := by unfold nameN; rw [hk]; rfl
  have HN := Lib.hid hname
  have hn0 : (0 : Int) ≤ n := by omega
  have hn41 : (n : Int) < 41 := by omega
  have hwn : IntKind.i64.wrap (n : Int) = n := by rw [IntKind.wrap_i64]; omega
  have HX := Lib.hid hX
  clear cI hform ho hd ha hb hi l0 lD lA hRD hRA sD sA hX hZ hr c0 c1 c2 c3 c4 hB hname s0 lN hDN sN
  go_enter Tryd.func21, Tryd.ntmps21
  go_wp2_with fail
  refine (CI.out _).mono ?_; rintro e w1 ⟨rfl, hb1⟩
  generalize w.alloc (.cells #[.int .i64 i.op, .int .i64 i.d, .int .i64 i.a, .int .i64 i.b, .int .i64 i.imm] 38) = W at *
  have k1 : Kept W w1 := Kept.to (Kept.refl _) hb1
  clear hb1
  go_wp2_with fail
  have j0 : Kept W w1.drew := k1.drew
  have cp0 := C0.out
  refine wp_region_lin [(1, true), (2, true), (3, true), (0, false), (4, true), (5, true), (6, true)]
    (by kernel_rfl) (by kernel_rfl) rfl (by kernel_rfl) (Kept W) ?_
  simp only [List.map_cons, List.map_nil, List.getElem?_toArray, List.getElem?_cons_succ, List.getElem?_cons_zero]
  iterate 3 (refine lin_take (v := ?_) (by assumption) (by rfl) ?_ ?_; rotate_left; (intro x hx; (try dsimp only at hx); go_simp; try (with_reducible rfl)); (simp only [Act.put, List.setIfInBounds_toArray, List.set_cons_zero, List.set_cons_succ]))
  refine lin_call (by assumption) (by rfl) (fun K hK => ?_)
  go_simp
  refine (refNames_any _).mono ?_
  rintro e w2 ⟨A2, c2, rfl, hr2, hb2⟩
  obtain ⟨g2, o2, rfl, hg2, _⟩ := hr2.at_ (by omega)
  have j2 := j0.to hb2
  have nm := names_row (n := 41) hr2 HK41.out
  rw [HN.out, ← HX.out] at nm
  have NM := Lib.hid (fun x (h : Kept W x ∧ Kept w2 x) => h.2.cell hg2 nm)
  clear nm hr2 hb2
  go_wp2_with fail
  refine hK.out _ _ j2 (fun _ => ?_)
  clear hK K
  try simp only [Act.put, List.setIfInBounds_toArray, List.set_cons_zero, List.set_cons_succ]
  refine lin_more (S' := fun x => Kept W x ∧ Kept w2 x) (fun _ h => h.1) ?_
  have js : Kept W w2 ∧ Kept w2 w2 := ⟨j2, Kept.refl _⟩
  have nm := NM.out
  iterate 3 (refine lin_take (v := ?_) (by assumption) (by rfl) ?_ ?_; rotate_left; (intro x hx; (try dsimp only at hx); go_simp; try (with_reducible rfl)); (try simp only [Act.put, List.setIfInBounds_toArray, List.set_cons_zero, List.set_cons_succ]))
  refine lin_done ?_
  clear cp0 nm js
  have K2 := Lib.hid (HB.out _ j2)
  have d0 := C0.out _ j2
  have d1 := C1.out _ j2
  have d2 := C2.out _ j2
  have d3 := C3.out _ j2
  have d4 := C4.out _ j2
  clear j2 j0 k1
  go_wp2_with fail
  refine (refForm_any _ _).mono ?_; rintro e w3 ⟨rfl, rfl⟩
  rw [hf]
  go_wp2_with fail
  go_quiet (first | (go_at_call 41; refine quiet_mine7 (CRD.out _)) | (go_at_call 41; refine quiet_mine7 (CRA.out _)) | (go_at_call 20; refine quiet_mine7 (CDN.out _)))
  go_wp2_with fail
  go_ret
  exact ⟨by first | rfl | rw [HJ.out], by first | exact K2.out | exact K2.out.drew | exact Below.drewN_ K2.out _⟩

set_option maxHeartbeats 4000000 in
theorem refShow_5 (i : Ins) (w : World) (hr : rightB i = true) (hf : formZ i.op = 5) :
    Calls Tryd.prog 21 #[.agg #[.int .i64 i.op, .int .i64 i.d, .int .i64 i.a, .int .i64 i.b, .int .i64 i.imm]] w fun e w' => e = .returned (.string (txt (showZ i))) ∧ Below w.heap.size w w' := by
  rw [showZ_yes hr]
  obtain ⟨ho, hd, ha, hb, hi⟩ := right_range hr
  have hform := showI_5 hf hb ha
  have l0 := nameN_len ho
  have lB := regS_len hb
  have lA := regS_len ha
  have lN := decN_len8 hi
  obtain ⟨X, hX⟩ : ∃ X, X = txt (nameN i.op) := ⟨_, rfl⟩
  obtain ⟨RB, hRB⟩ : ∃ R, R = txt (regS i.b) := ⟨_, rfl⟩
  obtain ⟨RA, hRA⟩ : ∃ R, R = txt (regS i.a) := ⟨_, rfl⟩
  obtain ⟨DN, hDN⟩ : ∃ D, D = txt (decN i.imm) := ⟨_, rfl⟩
  obtain ⟨Z, hZ⟩ : ∃ Z, Z = txt (showI i) := ⟨_, rfl⟩
  rw [← hZ]
  have s0 : X.size ≤ 4 := by rw [hX, txt_len]; exact l0
  have sB : RB.size ≤ 3 := by rw [hRB, txt_len]; exact lB
  have sA : RA.size ≤ 3 := by rw [hRA, txt_len]; exact lA
  have sN : DN.size ≤ 12 := by rw [hDN, txt_len]; exact lN
  have hj : (((((((X ++ (⟨#[32]⟩ : ByteArray)) ++ RB) ++ (⟨#[44, 32]⟩ : ByteArray)) ++ DN) ++ (⟨#[40]⟩ : ByteArray)) ++ RA) ++ (⟨#[41]⟩ : ByteArray)) = Z := by rw [hZ, hform, ← txt_join, ← txt_join, ← txt_join, ← txt_join, ← txt_join, ← txt_join, ← txt_join, ← hX, ← hRB, ← hRA, ← hDN]; try rfl
  have u0 : ¬ ((X).size + ((⟨#[32]⟩ : ByteArray)).size > 9223372036854775807) := by rw [show (⟨#[32]⟩ : ByteArray).size = 1 from rfl]; omega
  have u1 : ¬ (((X ++ (⟨#[32]⟩ : ByteArray))).size + (RB).size > 9223372036854775807) := by rw [ByteArray.size_append, show (⟨#[32]⟩ : ByteArray).size = 1 from rfl]; omega
  have u2 : ¬ ((((X ++ (⟨#[32]⟩ : ByteArray)) ++ RB)).size + ((⟨#[44, 32]⟩ : ByteArray)).size > 9223372036854775807) := by rw [ByteArray.size_append, ByteArray.size_append, show (⟨#[32]⟩ : ByteArray).size = 1 from rfl, show (⟨#[44, 32]⟩ : ByteArray).size = 2 from rfl]; omega
  have u3 : ¬ (((((X ++ (⟨#[32]⟩ : ByteArray)) ++ RB) ++ (⟨#[44, 32]⟩ : ByteArray))).size + (DN).size > 9223372036854775807) := by rw [ByteArray.size_append, ByteArray.size_append, ByteArray.size_append, show (⟨#[32]⟩ : ByteArray).size = 1 from rfl, show (⟨#[44, 32]⟩ : ByteArray).size = 2 from rfl]; omega
  have u4 : ¬ ((((((X ++ (⟨#[32]⟩ : ByteArray)) ++ RB) ++ (⟨#[44, 32]⟩ : ByteArray)) ++ DN)).size + ((⟨#[40]⟩ : ByteArray)).size > 9223372036854775807) := by rw [ByteArray.size_append, ByteArray.size_append, ByteArray.size_append, ByteArray.size_append, show (⟨#[32]⟩ : ByteArray).size = 1 from rfl, show (⟨#[44, 32]⟩ : ByteArray).size = 2 from rfl, show (⟨#[40]⟩ : ByteArray).size = 1 from rfl]; omega
  have u5 : ¬ (((((((X ++ (⟨#[32]⟩ : ByteArray)) ++ RB) ++ (⟨#[44, 32]⟩ : ByteArray)) ++ DN) ++ (⟨#[40]⟩ : ByteArray))).size + (RA).size > 9223372036854775807) := by rw [ByteArray.size_append, ByteArray.size_append, ByteArray.size_append, ByteArray.size_append, ByteArray.size_append, show (⟨#[32]⟩ : ByteArray).size = 1 from rfl, show (⟨#[44, 32]⟩ : ByteArray).size = 2 from rfl, show (⟨#[40]⟩ : ByteArray).size = 1 from rfl]; omega
  have u6 : ¬ ((((((((X ++ (⟨#[32]⟩ : ByteArray)) ++ RB) ++ (⟨#[44, 32]⟩ : ByteArray)) ++ DN) ++ (⟨#[40]⟩ : ByteArray)) ++ RA)).size + ((⟨#[41]⟩ : ByteArray)).size > 9223372036854775807) := by rw [ByteArray.size_append, ByteArray.size_append, ByteArray.size_append, ByteArray.size_append, ByteArray.size_append, ByteArray.size_append, show (⟨#[32]⟩ : ByteArray).size = 1 from rfl, show (⟨#[44, 32]⟩ : ByteArray).size = 2 from rfl, show (⟨#[40]⟩ : ByteArray).size = 1 from rfl, show (⟨#[41]⟩ : ByteArray).size = 1 from rfl]; omega
  have cRB := fun y => refR_any i.b y (by omega)
  rw [← hRB] at cRB
  have cRA := fun y => refR_any i.a y (by omega)
  rw [← hRA] at cRA
  have cDN := fun y => dec_any i.imm y (by omega)
  rw [← hDN] at cDN
  have CRB := Lib.hid cRB
  clear cRB
  have CRA := Lib.hid cRA
  clear cRA
  have CDN := Lib.hid cDN
  clear cDN
  have HJ := Lib.hid hj
  have cI := fun y => rightIns_any i y
  rw [hr] at cI
  have CI := Lib.hid cI
  have HB := Lib.hid (fun x (h : Kept (w.alloc (.cells #[.int .i64 i.op, .int .i64 i.d, .int .i64 i.a, .int .i64 i.b, .int .i64 i.imm] 38)) x) => ((Below.refl w.heap.size w).alloc (Nat.le_refl _) _).trans (Below.mono h (by simp)))
  have hB : w.heap.size < (w.alloc (.cells #[.int .i64 i.op, .int .i64 i.d, .int .i64 i.a, .int .i64 i.b, .int .i64 i.imm] 38)).heap.size := by simp
  have c0 : (w.alloc (.cells #[.int .i64 i.op, .int .i64 i.d, .int .i64 i.a, .int .i64 i.b, .int .i64 i.imm] 38)).cell? ⟨w.heap.size, 0, none⟩ = some (.int .i64 i.op) := by go_simp
  have c1 : (w.alloc (.cells #[.int .i64 i.op, .int .i64 i.d, .int .i64 i.a, .int .i64 i.b, .int .i64 i.imm] 38)).cell? ⟨w.heap.size, 1, none⟩ = some (.int .i64 i.d) := by go_simp
  have c2 : (w.alloc (.cells #[.int .i64 i.op, .int .i64 i.d, .int .i64 i.a, .int .i64 i.b, .int .i64 i.imm] 38)).cell? ⟨w.heap.size, 2, none⟩ = some (.int .i64 i.a) := by go_simp
  have c3 : (w.alloc (.cells #[.int .i64 i.op, .int .i64 i.d, .int .i64 i.a, .int .i64 i.b, .int .i64 i.imm] 38)).cell? ⟨w.heap.size, 3, none⟩ = some (.int .i64 i.b) := by go_simp
  have c4 : (w.alloc (.cells #[.int .i64 i.op, .int .i64 i.d, .int .i64 i.a, .int .i64 i.b, .int .i64 i.imm] 38)).cell? ⟨w.heap.size, 4, none⟩ = some (.int .i64 i.imm) := by go_simp
  have C0 := Lib.hid (fun x (h : Kept _ x) => h.cell hB c0)
  have C1 := Lib.hid (fun x (h : Kept _ x) => h.cell hB c1)
  have C2 := Lib.hid (fun x (h : Kept _ x) => h.cell hB c2)
  have C3 := Lib.hid (fun x (h : Kept _ x) => h.cell hB c3)
  have C4 := Lib.hid (fun x (h : Kept _ x) => h.cell hB c4)
  obtain ⟨n, hk⟩ : ∃ n : Nat, i.op - 1 = (n : Int) := ⟨(i.op - 1).toNat, by omega⟩
  have HK41 := Lib.hid (show n < 41 by omega)
  have hname : namesZ.getD n [] = nameN i.op := by unfold nameN; rw [hk]; rfl
  have HN := Lib.hid hname
  have hn0 : (0 : Int) ≤ n := by omega
  have hn41 : (n : Int) < 41 := by omega
  have hwn : IntKind.i64.wrap (n : Int) = n := by rw [IntKind.wrap_i64]; omega
  have HX := Lib.hid hX
  clear cI hform ho hd ha hb hi l0 lB lA hRB hRA sB sA hX hZ hr c0 c1 c2 c3 c4 hB hname s0 lN hDN sN
  go_enter Tryd.func21, Tryd.ntmps21
  go_wp2_with fail
  refine (CI.out _).mono ?_; rintro e w1 ⟨rfl, hb1⟩
  generalize w.alloc (.cells #[.int .i64 i.op, .int .i64 i.d, .int .i64 i.a, .int .i64 i.b, .int .i64 i.imm] 38) = W at *
  have k1 : Kept W w1 := Kept.to (Kept.refl _) hb1
  clear hb1
  go_wp2_with fail
  have j0 : Kept W w1.drew := k1.drew
  have cp0 := C0.out
  refine wp_region_lin [(1, true), (2, true), (3, true), (0, false), (4, true), (5, true), (6, true)]
    (by kernel_rfl) (by kernel_rfl) rfl (by kernel_rfl) (Kept W) ?_
  simp only [List.map_cons, List.map_nil, List.getElem?_toArray, List.getElem?_cons_succ, List.getElem?_cons_zero]
  iterate 3 (refine lin_take (v := ?_) (by assumption) (by rfl) ?_ ?_; rotate_left; (intro x hx; (try dsimp only at hx); go_simp; try (with_reducible rfl)); (simp only [Act.put, List.setIfInBounds_toArray, List.set_cons_zero, List.set_cons_succ]))
  refine lin_call (by assumption) (by rfl) (fun K hK => ?_)
  go_simp
  refine (refNames_any _).mono ?_
  rintro e w2 ⟨A2, c2, rfl, hr2, hb2⟩
  obtain ⟨g2, o2, rfl, hg2, _⟩ := hr2.at_ (by omega)
  have j2 := j0.to hb2
  have nm := names_row (n := 41) hr2 HK41.out
  rw [HN.out, ← HX.out] at nm
  have NM := Lib.hid (fun x (h : Kept W x ∧ Kept w2 x) => h.2.cell hg2 nm)
  clear nm hr2 hb2
  go_wp2_with fail
  refine hK.out _ _ j2 (fun _ => ?_)
  clear hK K
  try simp only [Act.put, List.setIfInBounds_toArray, List.set_cons_zero, List.set_cons_succ]
  refine lin_more (S' := fun x => Kept W x ∧ Kept w2 x) (fun _ h => h.1) ?_
  have js : Kept W w2 ∧ Kept w2 w2 := ⟨j2, Kept.refl _⟩
  have nm := NM.out
  iterate 3 (refine lin_take (v := ?_) (by assumption) (by rfl) ?_ ?_; rotate_left; (intro x hx; (try dsimp only at hx); go_simp; try (with_reducible rfl)); (try simp only [Act.put, List.setIfInBounds_toArray, List.set_cons_zero, List.set_cons_succ]))
  refine lin_done ?_
  clear cp0 nm js
  have K2 := Lib.hid (HB.out _ j2)
  have d0 := C0.out _ j2
  have d1 := C1.out _ j2
  have d2 := C2.out _ j2
  have d3 := C3.out _ j2
  have d4 := C4.out _ j2
  clear j2 j0 k1
  go_wp2_with fail
  refine (refForm_any _ _).mono ?_; rintro e w3 ⟨rfl, rfl⟩
  rw [hf]
  go_wp2_with fail
  go_quiet (first | (go_at_call 41; refine quiet_mine7 (CRB.out _)) | (go_at_call 41; refine quiet_mine7 (CRA.out _)) | (go_at_call 20; refine quiet_mine7 (CDN.out _)))
  go_wp2_with fail
  go_ret
  exact ⟨by first | rfl | rw [HJ.out], by first | exact K2.out | exact K2.out.drew | exact Below.drewN_ K2.out _⟩

set_option maxHeartbeats 4000000 in
theorem refShow_6 (i : Ins) (w : World) (hr : rightB i = true) (hf : formZ i.op = 6) :
    Calls Tryd.prog 21 #[.agg #[.int .i64 i.op, .int .i64 i.d, .int .i64 i.a, .int .i64 i.b, .int .i64 i.imm]] w fun e w' => e = .returned (.string (txt (showZ i))) ∧ Below w.heap.size w w' := by
  rw [showZ_yes hr]
  obtain ⟨ho, hd, ha, hb, hi⟩ := right_range hr
  have hform := showI_6 hf ha hb
  have l0 := nameN_len ho
  have lA := regS_len ha
  have lB := regS_len hb
  have lN := decN_len8 hi
  obtain ⟨X, hX⟩ : ∃ X, X = txt (nameN i.op) := ⟨_, rfl⟩
  obtain ⟨RA, hRA⟩ : ∃ R, R = txt (regS i.a) := ⟨_, rfl⟩
  obtain ⟨RB, hRB⟩ : ∃ R, R = txt (regS i.b) := ⟨_, rfl⟩
  obtain ⟨DN, hDN⟩ : ∃ D, D = txt (decN i.imm) := ⟨_, rfl⟩
  obtain ⟨Z, hZ⟩ : ∃ Z, Z = txt (showI i) := ⟨_, rfl⟩
  rw [← hZ]
  have s0 : X.size ≤ 4 := by rw [hX, txt_len]; exact l0
  have sA : RA.size ≤ 3 := by rw [hRA, txt_len]; exact lA
  have sB : RB.size ≤ 3 := by rw [hRB, txt_len]; exact lB
  have sN : DN.size ≤ 12 := by rw [hDN, txt_len]; exact lN
  have hj : ((((((X ++ (⟨#[32]⟩ : ByteArray)) ++ RA) ++ (⟨#[44, 32]⟩ : ByteArray)) ++ RB) ++ (⟨#[44, 32]⟩ : ByteArray)) ++ DN) = Z := by rw [hZ, hform, ← txt_join, ← txt_join, ← txt_join, ← txt_join, ← txt_join, ← txt_join, ← hX, ← hRA, ← hRB, ← hDN]; try rfl
  have u0 : ¬ ((X).size + ((⟨#[32]⟩ : ByteArray)).size > 9223372036854775807) := by rw [show (⟨#[32]⟩ : ByteArray).size = 1 from rfl]; omega
  have u1 : ¬ (((X ++ (⟨#[32]⟩ : ByteArray))).size + (RA).size > 9223372036854775807) := by rw [ByteArray.size_append, show (⟨#[32]⟩ : ByteArray).size = 1 from rfl]; omega
  have u2 : ¬ ((((X ++ (⟨#[32]⟩ : ByteArray)) ++ RA)).size + ((⟨#[44, 32]⟩ : ByteArray)).size > 9223372036854775807) := by rw [ByteArray.size_append, ByteArray.size_append, show (⟨#[32]⟩ : ByteArray).size = 1 from rfl, show (⟨#[44, 32]⟩ : ByteArray).size = 2 from rfl]; omega
  have u3 : ¬ (((((X ++ (⟨#[32]⟩ : ByteArray)) ++ RA) ++ (⟨#[44, 32]⟩ : ByteArray))).size + (RB).size > 9223372036854775807) := by rw [ByteArray.size_append, ByteArray.size_append, ByteArray.size_append, show (⟨#[32]⟩ : ByteArray).size = 1 from rfl, show (⟨#[44, 32]⟩ : ByteArray).size = 2 from rfl]; omega
  have u4 : ¬ ((((((X ++ (⟨#[32]⟩ : ByteArray)) ++ RA) ++ (⟨#[44, 32]⟩ : ByteArray)) ++ RB)).size + ((⟨#[44, 32]⟩ : ByteArray)).size > 9223372036854775807) := by rw [ByteArray.size_append, ByteArray.size_append, ByteArray.size_append, ByteArray.size_append, show (⟨#[32]⟩ : ByteArray).size = 1 from rfl, show (⟨#[44, 32]⟩ : ByteArray).size = 2 from rfl]; omega
  have u5 : ¬ (((((((X ++ (⟨#[32]⟩ : ByteArray)) ++ RA) ++ (⟨#[44, 32]⟩ : ByteArray)) ++ RB) ++ (⟨#[44, 32]⟩ : ByteArray))).size + (DN).size > 9223372036854775807) := by rw [ByteArray.size_append, ByteArray.size_append, ByteArray.size_append, ByteArray.size_append, ByteArray.size_append, show (⟨#[32]⟩ : ByteArray).size = 1 from rfl, show (⟨#[44, 32]⟩ : ByteArray).size = 2 from rfl]; omega
  have cRA := fun y => refR_any i.a y (by omega)
  rw [← hRA] at cRA
  have cRB := fun y => refR_any i.b y (by omega)
  rw [← hRB] at cRB
  have cDN := fun y => dec_any i.imm y (by omega)
  rw [← hDN] at cDN
  have CRA := Lib.hid cRA
  clear cRA
  have CRB := Lib.hid cRB
  clear cRB
  have CDN := Lib.hid cDN
  clear cDN
  have HJ := Lib.hid hj
  have cI := fun y => rightIns_any i y
  rw [hr] at cI
  have CI := Lib.hid cI
  have HB := Lib.hid (fun x (h : Kept (w.alloc (.cells #[.int .i64 i.op, .int .i64 i.d, .int .i64 i.a, .int .i64 i.b, .int .i64 i.imm] 38)) x) => ((Below.refl w.heap.size w).alloc (Nat.le_refl _) _).trans (Below.mono h (by simp)))
  have hB : w.heap.size < (w.alloc (.cells #[.int .i64 i.op, .int .i64 i.d, .int .i64 i.a, .int .i64 i.b, .int .i64 i.imm] 38)).heap.size := by simp
  have c0 : (w.alloc (.cells #[.int .i64 i.op, .int .i64 i.d, .int .i64 i.a, .int .i64 i.b, .int .i64 i.imm] 38)).cell? ⟨w.heap.size, 0, none⟩ = some (.int .i64 i.op) := by go_simp
  have c1 : (w.alloc (.cells #[.int .i64 i.op, .int .i64 i.d, .int .i64 i.a, .int .i64 i.b, .int .i64 i.imm] 38)).cell? ⟨w.heap.size, 1, none⟩ = some (.int .i64 i.d) := by go_simp
  have c2 : (w.alloc (.cells #[.int .i64 i.op, .int .i64 i.d, .int .i64 i.a, .int .i64 i.b, .int .i64 i.imm] 38)).cell? ⟨w.heap.size, 2, none⟩ = some (.int .i64 i.a) := by go_simp
  have c3 : (w.alloc (.cells #[.int .i64 i.op, .int .i64 i.d, .int .i64 i.a, .int .i64 i.b, .int .i64 i.imm] 38)).cell? ⟨w.heap.size, 3, none⟩ = some (.int .i64 i.b) := by go_simp
  have c4 : (w.alloc (.cells #[.int .i64 i.op, .int .i64 i.d, .int .i64 i.a, .int .i64 i.b, .int .i64 i.imm] 38)).cell? ⟨w.heap.size, 4, none⟩ = some (.int .i64 i.imm) := by go_simp
  have C0 := Lib.hid (fun x (h : Kept _ x) => h.cell hB c0)
  have C1 := Lib.hid (fun x (h : Kept _ x) => h.cell hB c1)
  have C2 := Lib.hid (fun x (h : Kept _ x) => h.cell hB c2)
  have C3 := Lib.hid (fun x (h : Kept _ x) => h.cell hB c3)
  have C4 := Lib.hid (fun x (h : Kept _ x) => h.cell hB c4)
  obtain ⟨n, hk⟩ : ∃ n : Nat, i.op - 1 = (n : Int) := ⟨(i.op - 1).toNat, by omega⟩
  have HK41 := Lib.hid (show n < 41 by omega)
  have hname : namesZ.getD n [] = nameN i.op := by unfold nameN; rw [hk]; rfl
  have HN := Lib.hid hname
  have hn0 : (0 : Int) ≤ n := by omega
  have hn41 : (n : Int) < 41 := by omega
  have hwn : IntKind.i64.wrap (n : Int) = n := by rw [IntKind.wrap_i64]; omega
  have HX := Lib.hid hX
  clear cI hform ho hd ha hb hi l0 lA lB hRA hRB sA sB hX hZ hr c0 c1 c2 c3 c4 hB hname s0 lN hDN sN
  go_enter Tryd.func21, Tryd.ntmps21
  go_wp2_with fail
  refine (CI.out _).mono ?_; rintro e w1 ⟨rfl, hb1⟩
  generalize w.alloc (.cells #[.int .i64 i.op, .int .i64 i.d, .int .i64 i.a, .int .i64 i.b, .int .i64 i.imm] 38) = W at *
  have k1 : Kept W w1 := Kept.to (Kept.refl _) hb1
  clear hb1
  go_wp2_with fail
  have j0 : Kept W w1.drew := k1.drew
  have cp0 := C0.out
  refine wp_region_lin [(1, true), (2, true), (3, true), (0, false), (4, true), (5, true), (6, true)]
    (by kernel_rfl) (by kernel_rfl) rfl (by kernel_rfl) (Kept W) ?_
  simp only [List.map_cons, List.map_nil, List.getElem?_toArray, List.getElem?_cons_succ, List.getElem?_cons_zero]
  iterate 3 (refine lin_take (v := ?_) (by assumption) (by rfl) ?_ ?_; rotate_left; (intro x hx; (try dsimp only at hx); go_simp; try (with_reducible rfl)); (simp only [Act.put, List.setIfInBounds_toArray, List.set_cons_zero, List.set_cons_succ]))
  refine lin_call (by assumption) (by rfl) (fun K hK => ?_)
  go_simp
  refine (refNames_any _).mono ?_
  rintro e w2 ⟨A2, c2, rfl, hr2, hb2⟩
  obtain ⟨g2, o2, rfl, hg2, _⟩ := hr2.at_ (by omega)
  have j2 := j0.to hb2
  have nm := names_row (n := 41) hr2 HK41.out
  rw [HN.out, ← HX.out] at nm
  have NM := Lib.hid (fun x (h : Kept W x ∧ Kept w2 x) => h.2.cell hg2 nm)
  clear nm hr2 hb2
  go_wp2_with fail
  refine hK.out _ _ j2 (fun _ => ?_)
  clear hK K
  try simp only [Act.put, List.setIfInBounds_toArray, List.set_cons_zero, List.set_cons_succ]
  refine lin_more (S' := fun x => Kept W x ∧ Kept w2 x) (fun _ h => h.1) ?_
  have js : Kept W w2 ∧ Kept w2 w2 := ⟨j2, Kept.refl _⟩
  have nm := NM.out
  iterate 3 (refine lin_take (v := ?_) (by assumption) (by rfl) ?_ ?_; rotate_left; (intro x hx; (try dsimp only at hx); go_simp; try (with_reducible rfl)); (try simp only [Act.put, List.setIfInBounds_toArray, List.set_cons_zero, List.set_cons_succ]))
  refine lin_done ?_
  clear cp0 nm js
  have K2 := Lib.hid (HB.out _ j2)
  have d0 := C0.out _ j2
  have d1 := C1.out _ j2
  have d2 := C2.out _ j2
  have d3 := C3.out _ j2
  have d4 := C4.out _ j2
  clear j2 j0 k1
  go_wp2_with fail
  refine (refForm_any _ _).mono ?_; rintro e w3 ⟨rfl, rfl⟩
  rw [hf]
  go_wp2_with fail
  go_quiet (first | (go_at_call 41; refine quiet_mine7 (CRA.out _)) | (go_at_call 41; refine quiet_mine7 (CRB.out _)) | (go_at_call 20; refine quiet_mine7 (CDN.out _)))
  go_wp2_with fail
  go_ret
  exact ⟨by first | rfl | rw [HJ.out], by first | exact K2.out | exact K2.out.drew | exact Below.drewN_ K2.out _⟩

set_option maxHeartbeats 4000000 in
theorem refShow_7 (i : Ins) (w : World) (hr : rightB i = true) (hf : formZ i.op = 7) :
    Calls Tryd.prog 21 #[.agg #[.int .i64 i.op, .int .i64 i.d, .int .i64 i.a, .int .i64 i.b, .int .i64 i.imm]] w fun e w' => e = .returned (.string (txt (showZ i))) ∧ Below w.heap.size w w' := by
  rw [showZ_yes hr]
  obtain ⟨ho, hd, ha, hb, hi⟩ := right_range hr
  have hform := showI_7 hf
  have l0 := nameN_len ho
  have lN := decN_len8 hi
  obtain ⟨X, hX⟩ : ∃ X, X = txt (nameN i.op) := ⟨_, rfl⟩
  obtain ⟨DN, hDN⟩ : ∃ D, D = txt (decN i.imm) := ⟨_, rfl⟩
  obtain ⟨Z, hZ⟩ : ∃ Z, Z = txt (showI i) := ⟨_, rfl⟩
  rw [← hZ]
  have s0 : X.size ≤ 4 := by rw [hX, txt_len]; exact l0
  have sN : DN.size ≤ 12 := by rw [hDN, txt_len]; exact lN
  have hj : ((X ++ (⟨#[32]⟩ : ByteArray)) ++ DN) = Z := by rw [hZ, hform, ← txt_join, ← txt_join, ← hX, ← hDN]; try rfl
  have u0 : ¬ ((X).size + ((⟨#[32]⟩ : ByteArray)).size > 9223372036854775807) := by rw [show (⟨#[32]⟩ : ByteArray).size = 1 from rfl]; omega
  have u1 : ¬ (((X ++ (⟨#[32]⟩ : ByteArray))).size + (DN).size > 9223372036854775807) := by rw [ByteArray.size_append, show (⟨#[32]⟩ : ByteArray).size = 1 from rfl]; omega
  have cDN := fun y => dec_any i.imm y (by omega)
  rw [← hDN] at cDN
  have CDN := Lib.hid cDN
  clear cDN
  have HJ := Lib.hid hj
  have cI := fun y => rightIns_any i y
  rw [hr] at cI
  have CI := Lib.hid cI
  have HB := Lib.hid (fun x (h : Kept (w.alloc (.cells #[.int .i64 i.op, .int .i64 i.d, .int .i64 i.a, .int .i64 i.b, .int .i64 i.imm] 38)) x) => ((Below.refl w.heap.size w).alloc (Nat.le_refl _) _).trans (Below.mono h (by simp)))
  have hB : w.heap.size < (w.alloc (.cells #[.int .i64 i.op, .int .i64 i.d, .int .i64 i.a, .int .i64 i.b, .int .i64 i.imm] 38)).heap.size := by simp
  have c0 : (w.alloc (.cells #[.int .i64 i.op, .int .i64 i.d, .int .i64 i.a, .int .i64 i.b, .int .i64 i.imm] 38)).cell? ⟨w.heap.size, 0, none⟩ = some (.int .i64 i.op) := by go_simp
  have c1 : (w.alloc (.cells #[.int .i64 i.op, .int .i64 i.d, .int .i64 i.a, .int .i64 i.b, .int .i64 i.imm] 38)).cell? ⟨w.heap.size, 1, none⟩ = some (.int .i64 i.d) := by go_simp
  have c2 : (w.alloc (.cells #[.int .i64 i.op, .int .i64 i.d, .int .i64 i.a, .int .i64 i.b, .int .i64 i.imm] 38)).cell? ⟨w.heap.size, 2, none⟩ = some (.int .i64 i.a) := by go_simp
  have c3 : (w.alloc (.cells #[.int .i64 i.op, .int .i64 i.d, .int .i64 i.a, .int .i64 i.b, .int .i64 i.imm] 38)).cell? ⟨w.heap.size, 3, none⟩ = some (.int .i64 i.b) := by go_simp
  have c4 : (w.alloc (.cells #[.int .i64 i.op, .int .i64 i.d, .int .i64 i.a, .int .i64 i.b, .int .i64 i.imm] 38)).cell? ⟨w.heap.size, 4, none⟩ = some (.int .i64 i.imm) := by go_simp
  have C0 := Lib.hid (fun x (h : Kept _ x) => h.cell hB c0)
  have C1 := Lib.hid (fun x (h : Kept _ x) => h.cell hB c1)
  have C2 := Lib.hid (fun x (h : Kept _ x) => h.cell hB c2)
  have C3 := Lib.hid (fun x (h : Kept _ x) => h.cell hB c3)
  have C4 := Lib.hid (fun x (h : Kept _ x) => h.cell hB c4)
  obtain ⟨n, hk⟩ : ∃ n : Nat, i.op - 1 = (n : Int) := ⟨(i.op - 1).toNat, by omega⟩
  have HK41 := Lib.hid (show n < 41 by omega)
  have hname : namesZ.getD n [] = nameN i.op := by unfold nameN; rw [hk]; rfl
  have HN := Lib.hid hname
  have hn0 : (0 : Int) ≤ n := by omega
  have hn41 : (n : Int) < 41 := by omega
  have hwn : IntKind.i64.wrap (n : Int) = n := by rw [IntKind.wrap_i64]; omega
  have HX := Lib.hid hX
  clear cI hform ho hd ha hb hi l0  hX hZ hr c0 c1 c2 c3 c4 hB hname s0 lN hDN sN
  go_enter Tryd.func21, Tryd.ntmps21
  go_wp2_with fail
  refine (CI.out _).mono ?_; rintro e w1 ⟨rfl, hb1⟩
  generalize w.alloc (.cells #[.int .i64 i.op, .int .i64 i.d, .int .i64 i.a, .int .i64 i.b, .int .i64 i.imm] 38) = W at *
  have k1 : Kept W w1 := Kept.to (Kept.refl _) hb1
  clear hb1
  go_wp2_with fail
  have j0 : Kept W w1.drew := k1.drew
  have cp0 := C0.out
  refine wp_region_lin [(1, true), (2, true), (3, true), (0, false), (4, true), (5, true), (6, true)]
    (by kernel_rfl) (by kernel_rfl) rfl (by kernel_rfl) (Kept W) ?_
  simp only [List.map_cons, List.map_nil, List.getElem?_toArray, List.getElem?_cons_succ, List.getElem?_cons_zero]
  iterate 3 (refine lin_take (v := ?_) (by assumption) (by rfl) ?_ ?_; rotate_left; (intro x hx; (try dsimp only at hx); go_simp; try (with_reducible rfl)); (simp only [Act.put, List.setIfInBounds_toArray, List.set_cons_zero, List.set_cons_succ]))
  refine lin_call (by assumption) (by rfl) (fun K hK => ?_)
  go_simp
  refine (refNames_any _).mono ?_
  rintro e w2 ⟨A2, c2, rfl, hr2, hb2⟩
  obtain ⟨g2, o2, rfl, hg2, _⟩ := hr2.at_ (by omega)
  have j2 := j0.to hb2
  have nm := names_row (n := 41) hr2 HK41.out
  rw [HN.out, ← HX.out] at nm
  have NM := Lib.hid (fun x (h : Kept W x ∧ Kept w2 x) => h.2.cell hg2 nm)
  clear nm hr2 hb2
  go_wp2_with fail
  refine hK.out _ _ j2 (fun _ => ?_)
  clear hK K
  try simp only [Act.put, List.setIfInBounds_toArray, List.set_cons_zero, List.set_cons_succ]
  refine lin_more (S' := fun x => Kept W x ∧ Kept w2 x) (fun _ h => h.1) ?_
  have js : Kept W w2 ∧ Kept w2 w2 := ⟨j2, Kept.refl _⟩
  have nm := NM.out
  iterate 3 (refine lin_take (v := ?_) (by assumption) (by rfl) ?_ ?_; rotate_left; (intro x hx; (try dsimp only at hx); go_simp; try (with_reducible rfl)); (try simp only [Act.put, List.setIfInBounds_toArray, List.set_cons_zero, List.set_cons_succ]))
  refine lin_done ?_
  clear cp0 nm js
  have K2 := Lib.hid (HB.out _ j2)
  have d0 := C0.out _ j2
  have d1 := C1.out _ j2
  have d2 := C2.out _ j2
  have d3 := C3.out _ j2
  have d4 := C4.out _ j2
  clear j2 j0 k1
  go_wp2_with fail
  refine (refForm_any _ _).mono ?_; rintro e w3 ⟨rfl, rfl⟩
  rw [hf]
  go_wp2_with (go_at_call 20; refine (CDN.out _).mono ?_; rintro e w4 ⟨rfl, rfl⟩)
  go_ret
  exact ⟨by first | rfl | rw [HJ.out], K2.out⟩

set_option maxHeartbeats 4000000 in
theorem refShow_8 (i : Ins) (w : World) (hr : rightB i = true) (hf : formZ i.op = 8) :
    Calls Tryd.prog 21 #[.agg #[.int .i64 i.op, .int .i64 i.d, .int .i64 i.a, .int .i64 i.b, .int .i64 i.imm]] w fun e w' => e = .returned (.string (txt (showZ i))) ∧ Below w.heap.size w w' := by
  rw [showZ_yes hr]
  obtain ⟨ho, hd, ha, hb, hi⟩ := right_range hr
  have hform := showI_8 hf
  have l0 := nameN_len ho
  obtain ⟨X, hX⟩ : ∃ X, X = txt (nameN i.op) := ⟨_, rfl⟩
  obtain ⟨Z, hZ⟩ : ∃ Z, Z = txt (showI i) := ⟨_, rfl⟩
  rw [← hZ]
  have s0 : X.size ≤ 4 := by rw [hX, txt_len]; exact l0
  have hj : X = Z := by rw [hZ, hform, ← hX]
  have HJ := Lib.hid hj
  have cI := fun y => rightIns_any i y
  rw [hr] at cI
  have CI := Lib.hid cI
  have HB := Lib.hid (fun x (h : Kept (w.alloc (.cells #[.int .i64 i.op, .int .i64 i.d, .int .i64 i.a, .int .i64 i.b, .int .i64 i.imm] 38)) x) => ((Below.refl w.heap.size w).alloc (Nat.le_refl _) _).trans (Below.mono h (by simp)))
  have hB : w.heap.size < (w.alloc (.cells #[.int .i64 i.op, .int .i64 i.d, .int .i64 i.a, .int .i64 i.b, .int .i64 i.imm] 38)).heap.size := by simp
  have c0 : (w.alloc (.cells #[.int .i64 i.op, .int .i64 i.d, .int .i64 i.a, .int .i64 i.b, .int .i64 i.imm] 38)).cell? ⟨w.heap.size, 0, none⟩ = some (.int .i64 i.op) := by go_simp
  have c1 : (w.alloc (.cells #[.int .i64 i.op, .int .i64 i.d, .int .i64 i.a, .int .i64 i.b, .int .i64 i.imm] 38)).cell? ⟨w.heap.size, 1, none⟩ = some (.int .i64 i.d) := by go_simp
  have c2 : (w.alloc (.cells #[.int .i64 i.op, .int .i64 i.d, .int .i64 i.a, .int .i64 i.b, .int .i64 i.imm] 38)).cell? ⟨w.heap.size, 2, none⟩ = some (.int .i64 i.a) := by go_simp
  have c3 : (w.alloc (.cells #[.int .i64 i.op, .int .i64 i.d, .int .i64 i.a, .int .i64 i.b, .int .i64 i.imm] 38)).cell? ⟨w.heap.size, 3, none⟩ = some (.int .i64 i.b) := by go_simp
  have c4 : (w.alloc (.cells #[.int .i64 i.op, .int .i64 i.d, .int .i64 i.a, .int .i64 i.b, .int .i64 i.imm] 38)).cell? ⟨w.heap.size, 4, none⟩ = some (.int .i64 i.imm) := by go_simp
  have C0 := Lib.hid (fun x (h : Kept _ x) => h.cell hB c0)
  have C1 := Lib.hid (fun x (h : Kept _ x) => h.cell hB c1)
  have C2 := Lib.hid (fun x (h : Kept _ x) => h.cell hB c2)
  have C3 := Lib.hid (fun x (h : Kept _ x) => h.cell hB c3)
  have C4 := Lib.hid (fun x (h : Kept _ x) => h.cell hB c4)
  obtain ⟨n, hk⟩ : ∃ n : Nat, i.op - 1 = (n : Int) := ⟨(i.op - 1).toNat, by omega⟩
  have HK41 := Lib.hid (show n < 41 by omega)
  have hname : namesZ.getD n [] = nameN i.op := by unfold nameN; rw [hk]; rfl
  have HN := Lib.hid hname
  have hn0 : (0 : Int) ≤ n := by omega
  have hn41 : (n : Int) < 41 := by omega
  have hwn : IntKind.i64.wrap (n : Int) = n := by rw [IntKind.wrap_i64]; omega
  have HX := Lib.hid hX
  clear cI hform ho hd ha hb hi l0  hX hZ hr c0 c1 c2 c3 c4 hB hname s0 
  go_enter Tryd.func21, Tryd.ntmps21
  go_wp2_with fail
  refine (CI.out _).mono ?_; rintro e w1 ⟨rfl, hb1⟩
  generalize w.alloc (.cells #[.int .i64 i.op, .int .i64 i.d, .int .i64 i.a, .int .i64 i.b, .int .i64 i.imm] 38) = W at *
  have k1 : Kept W w1 := Kept.to (Kept.refl _) hb1
  clear hb1
  go_wp2_with fail
  have j0 : Kept W w1.drew := k1.drew
  have cp0 := C0.out
  refine wp_region_lin [(1, true), (2, true), (3, true), (0, false), (4, true), (5, true), (6, true)]
    (by kernel_rfl) (by kernel_rfl) rfl (by kernel_rfl) (Kept W) ?_
  simp only [List.map_cons, List.map_nil, List.getElem?_toArray, List.getElem?_cons_succ, List.getElem?_cons_zero]
  iterate 3 (refine lin_take (v := ?_) (by assumption) (by rfl) ?_ ?_; rotate_left; (intro x hx; (try dsimp only at hx); go_simp; try (with_reducible rfl)); (simp only [Act.put, List.setIfInBounds_toArray, List.set_cons_zero, List.set_cons_succ]))
  refine lin_call (by assumption) (by rfl) (fun K hK => ?_)
  go_simp
  refine (refNames_any _).mono ?_
  rintro e w2 ⟨A2, c2, rfl, hr2, hb2⟩
  obtain ⟨g2, o2, rfl, hg2, _⟩ := hr2.at_ (by omega)
  have j2 := j0.to hb2
  have nm := names_row (n := 41) hr2 HK41.out
  rw [HN.out, ← HX.out] at nm
  have NM := Lib.hid (fun x (h : Kept W x ∧ Kept w2 x) => h.2.cell hg2 nm)
  clear nm hr2 hb2
  go_wp2_with fail
  refine hK.out _ _ j2 (fun _ => ?_)
  clear hK K
  try simp only [Act.put, List.setIfInBounds_toArray, List.set_cons_zero, List.set_cons_succ]
  refine lin_more (S' := fun x => Kept W x ∧ Kept w2 x) (fun _ h => h.1) ?_
  have js : Kept W w2 ∧ Kept w2 w2 := ⟨j2, Kept.refl _⟩
  have nm := NM.out
  iterate 3 (refine lin_take (v := ?_) (by assumption) (by rfl) ?_ ?_; rotate_left; (intro x hx; (try dsimp only at hx); go_simp; try (with_reducible rfl)); (try simp only [Act.put, List.setIfInBounds_toArray, List.set_cons_zero, List.set_cons_succ]))
  refine lin_done ?_
  clear cp0 nm js
  have K2 := Lib.hid (HB.out _ j2)
  have d0 := C0.out _ j2
  have d1 := C1.out _ j2
  have d2 := C2.out _ j2
  have d3 := C3.out _ j2
  have d4 := C4.out _ j2
  clear j2 j0 k1
  go_wp2_with fail
  refine (refForm_any _ _).mono ?_; rintro e w3 ⟨rfl, rfl⟩
  rw [hf]
  go_wp2_with fail
  go_ret
  exact ⟨by first | rfl | rw [HJ.out], K2.out⟩

/-- ShowIns. -/
theorem refShow_any (i : Ins) (w : World) :
    Calls Tryd.prog 21 #[.agg #[.int .i64 i.op, .int .i64 i.d, .int .i64 i.a, .int .i64 i.b, .int .i64 i.imm]] w fun e w' => e = .returned (.string (txt (showZ i))) ∧ Below w.heap.size w w' := by
  cases hr : rightB i
  · exact refShow_no i w hr
  · have := formZ_right hr
    have h8 : formZ i.op = 1 ∨ formZ i.op = 2 ∨ formZ i.op = 3 ∨ formZ i.op = 4 ∨ formZ i.op = 5 ∨ formZ i.op = 6 ∨ formZ i.op = 7 ∨ formZ i.op = 8 := by omega
    rcases h8 with h | h | h | h | h | h | h | h
    · exact refShow_1 i w hr h
    · exact refShow_2 i w hr h
    · exact refShow_3 i w hr h
    · exact refShow_4 i w hr h
    · exact refShow_5 i w hr h
    · exact refShow_6 i w hr h
    · exact refShow_7 i w hr h
    · exact refShow_8 i w hr h
end Go.Proofs.YtfdegdbknponkaaDoor.Words

/- Contracts of the laws' own helpers of chapter 4 that call nothing of the program: num, Few. -/
namespace Go.Proofs.YtfdegdbknponkaaDoor.Words
set_option maxRecDepth 100000
open Go.RowKit
set_option linter.unusedVariables false

/-- Is a program short enough? -/
def fewB (n m : Nat) : Bool := decide (n ≤ 200 ∧ m ≤ 500)
set_option maxHeartbeats 400000 in
theorem few_any (A A' : Option Addr) (n c m c' : Nat) (sz : Int) (w : World) (hn : n ≤ 9223372036854775807) (hm : m ≤ 9223372036854775807) :
    Calls Tryd.prog 18 #[.agg #[.slice A n c, .int .i64 sz, .slice A' m c']] w fun e w' => e = .returned (.bool (fewB n m)) ∧ Below w.heap.size w w' := by
  by_cases h1 : n ≤ 200
  · by_cases h2 : m ≤ 500
    · have hr : fewB n m = true := decide_eq_true ⟨h1, h2⟩
      rw [hr]
      go_enter Tryd.func18, Tryd.ntmps18
      go_wp2_with fail
      go_ret
      exact ⟨by simp <;> omega, (Below.refl _ _).alloc (Nat.le_refl _) _⟩
    · have hr : fewB n m = false := decide_eq_false (fun h => h2 h.2)
      rw [hr]
      go_enter Tryd.func18, Tryd.ntmps18
      go_wp2_with fail
      go_ret
      exact ⟨by simp <;> omega, (Below.refl _ _).alloc (Nat.le_refl _) _⟩
  · have hr : fewB n m = false := decide_eq_false (fun h => h1 h.1)
    rw [hr]
    go_enter Tryd.func18, Tryd.ntmps18
    go_wp2_with fail
    go_ret
    exact ⟨by simp <;> omega, (Below.refl _ _).alloc (Nat.le_refl _) _⟩
end Go.Proofs.YtfdegdbknponkaaDoor.Words

/- An argument that is an instruction (a struct of five ints by value): its five numbers. -/
namespace Go.Proofs.YtfdegdbknponkaaDoor.Words
set_option maxRecDepth 100000
open Go.ChangeShapes Go.WideShapes Go.ChangeAt Go.RowKit

section
variable {H : Type} {enc : TypeId × Value → H} {w : World} {base : Nat} {spare : Nat → Bool} {held : Bool}


theorem ins_cells {fuel : Nat} {cs : List Value} {x : DataW H × List MemPlace} (h : DataW.trod enc Tryd.prog w base spare held fuel 38 cs = some x) :
    ∃ i : Ins, i.Fits ∧ cs = insCells i := by
  obtain ⟨xs, n, _, _, hlen, hxl, hg⟩ := DataW.trod_struct Tryd.underlying38 h
  have hC : Tryd.prog.cellsOf 38 = 5 := by kernel_rfl
  have hc1 : Tryd.prog.cellsOf 3 = 1 := by kernel_rfl
  rw [hC] at hlen
  have hxl' : xs.length = 5 := hxl
  match cs, hlen with
  | [c0, c1, c2, c3, c4], _ =>
    have g : ∀ (j : Nat) (hj : j < 5), DataW.trod enc Tryd.prog w base spare held n 3 (([c0, c1, c2, c3, c4].drop j).take 1) = some xs[j] := by
      intro j hj
      rw [← List.getElem?_eq_getElem (by omega), ← hc1]
      match j, hj with
      | 0, _ => exact hg 0 _ rfl
      | 1, _ => exact hg 1 _ rfl
      | 2, _ => exact hg 2 _ rfl
      | 3, _ => exact hg 3 _ rfl
      | 4, _ => exact hg 4 _ rfl
    obtain ⟨n0, e0, _, f0⟩ := DataW.trod_int Tryd.underlying3 (g 0 (by omega))
    obtain ⟨n1, e1, _, f1⟩ := DataW.trod_int Tryd.underlying3 (g 1 (by omega))
    obtain ⟨n2, e2, _, f2⟩ := DataW.trod_int Tryd.underlying3 (g 2 (by omega))
    obtain ⟨n3, e3, _, f3⟩ := DataW.trod_int Tryd.underlying3 (g 3 (by omega))
    obtain ⟨n4, e4, _, f4⟩ := DataW.trod_int Tryd.underlying3 (g 4 (by omega))
    simp only [List.drop_zero, List.take_succ_cons, List.take_zero, List.drop_succ_cons, List.cons.injEq, and_true] at e0 e1 e2 e3 e4
    subst e0 e1 e2 e3 e4
    exact ⟨⟨n0, n1, n2, n3, n4⟩, ⟨bounds_i64 f0, bounds_i64 f1, bounds_i64 f2, bounds_i64 f3, bounds_i64 f4⟩, rfl⟩

theorem open_ins {r : Reach} {b0 : Nat} {v : Value} {d : DataW H} {ps : List MemPlace} (hval : Value.okWide Tryd.prog w r b0 38 v) (hd : DataW.Trod enc Tryd.prog w base spare held 38 v d ps) :
    ∃ i : Ins, i.Fits ∧ v = .agg #[.int .i64 i.op, .int .i64 i.d, .int .i64 i.a, .int .i64 i.b, .int .i64 i.imm] := by
  obtain ⟨cs, rfl, _⟩ := okWide_struct Tryd.underlying38 hval
  obtain ⟨fuel, hf⟩ := hd
  obtain ⟨i, hi, hc⟩ := ins_cells hf
  refine ⟨i, hi, ?_⟩
  obtain ⟨l⟩ := cs
  have : l = insCells i := by simpa [Value.cells] using hc
  rw [this]; rfl
end
end Go.Proofs.YtfdegdbknponkaaDoor.Words

/- An argument that is a program (a struct of a slice of instructions, an int and a slice of bytes, by value): its plain data. -/
namespace Go.Proofs.YtfdegdbknponkaaDoor.Words
set_option maxRecDepth 100000
open Go.ChangeShapes Go.WideShapes Go.ChangeAt Go.RowKit

instance : Inhabited Ins := ⟨⟨0, 0, 0, 0, 0⟩⟩

section
variable {H : Type} {enc : TypeId × Value → H} {w : World} {base : Nat} {spare : Nat → Bool} {held : Bool}

theorem range_map_get {α : Type} (f : Nat → α) (n k : Nat) (h : k < n) : ((List.range n).map f)[k]? = some (f k) := by
  rw [List.getElem?_map, List.getElem?_range h]; rfl

/-- A slice of instructions. -/
theorem open_code {t : TypeId} (ht : Tryd.prog.underlying t = some (.slice 38)) {fuel : Nat} {cs : List Value} {x : DataW H × List MemPlace} (h : DataW.trod enc Tryd.prog w base spare held fuel t cs = some x) :
    ∃ (A : Option Addr) (c : Nat) (l : List Ins), cs = [.slice A l.length c] ∧ Row w w.heap.size 5 (.slice A l.length c) l.length (codeCells l) ∧ ∀ i ∈ l, i.Fits := by
  have hC : Tryd.prog.cellsOf 38 = 5 := by kernel_rfl
  rcases Deep.open_slice ht h with ⟨rfl, _⟩ | ⟨a, len, cap, m, n, D, Pl, rfl, hb, hl, hm, hmm, _, hx⟩
  · exact ⟨none, 0, [], rfl, Row.nil _ _ _, by simp⟩
  rw [hC] at hx
  have hlm : len ≤ m := by rw [hmm]; split <;> omega
  obtain ⟨f, hf⟩ := Deep.choose_lt (α := Ins) (n := len) (p := fun i v => v.Fits ∧ w.cells? base (a.add (i * 5)) 5 = some (insCells v)) (fun i hi => by
    obtain ⟨cs', h1, h2⟩ := hx i (by omega)
    obtain ⟨v, hv, rfl⟩ := ins_cells h2
    exact ⟨v, hv, h1⟩)
  have hlen : ((List.range len).map f).length = len := by simp
  refine ⟨some a, cap, (List.range len).map f, by rw [hlen], ?_, ?_⟩
  · rw [hlen]
    refine ⟨by rw [codeCells_length, hlen], some a, cap, rfl, hl, by simpa [maxLen] using hm, (fun h => by cases h), fun hn => ?_⟩
    have hcell : ∀ k j u, k < len → j < 5 → (insCells (f k))[j]? = some u → w.cell? (a.add (k * 5 + j)) = some u := by
      intro k j u hk hj hu
      have h1 := (hf k hk).2
      obtain ⟨_, h2, h3⟩ := World.cells?_some h1
      have := h3 j hj
      rwa [Deep.add_add, hu] at this
    have h00 := hcell 0 0 (.int .i64 (f 0).op) (by omega) (by omega) rfl
    obtain ⟨b, off, spot⟩ := a
    have hs : spot = none := by simpa [Addr.add] using World.cell?_spot h00
    subst hs
    refine ⟨b, off, rfl, ?_, fun j u hu => ?_⟩
    · rw [add_spot] at h00
      unfold World.cell? at h00
      rcases hh : w.heap[b]? with _ | o
      · simp [hh] at h00
      · exact (Array.getElem?_eq_some_iff.1 hh).1
    · have hj : j < len * 5 := by
        rw [List.getElem?_eq_some_iff] at hu
        obtain ⟨h, _⟩ := hu
        rw [codeCells_length, hlen] at h; exact h
      have hk : j / 5 < len := by omega
      have hr : j % 5 < 5 := by omega
      have e : j / 5 * 5 + j % 5 = j := by omega
      have h5 := codeCells_at ((List.range len).map f) (j / 5) (f (j / 5)) (range_map_get f len _ hk) (j % 5) hr
      rw [e, hu] at h5
      have := hcell (j / 5) (j % 5) u hk hr h5.symm
      rwa [e, add_spot] at this
  · intro i hi
    obtain ⟨k, hk, rfl⟩ := List.mem_map.1 hi
    exact (hf k (List.mem_range.1 hk)).1

/-- A slice of bytes. -/
theorem open_bytes {t : TypeId} (ht : Tryd.prog.underlying t = some (.slice 5)) {fuel : Nat} {cs : List Value} {x : DataW H × List MemPlace} (h : DataW.trod enc Tryd.prog w base (fun _ => true) held fuel t cs = some x) :
    ∃ (A : Option Addr) (c : Nat) (l : List Int), cs = [.slice A l.length c] ∧ Row w w.heap.size 1 (.slice A l.length c) l.length (l.map (Value.int .u8)) ∧ ∀ b ∈ l, 0 ≤ b ∧ b ≤ 255 := by
  rcases open_ints ht Tryd.underlying5 (by kernel_rfl) h with ⟨rfl, _⟩ | ⟨x, l, c, zs, rfl, _, hl, hm, hz, _, hcell, hwz⟩
  · exact ⟨none, 0, [], rfl, Row.nil _ _ _, by simp⟩
  · have hzl : zs.length = c := by simpa using hz
    have hlen : (zs.take l).length = l := by rw [List.length_take]; omega
    refine ⟨some x, c, zs.take l, by rw [hlen], ?_, fun b hb => bounds_u8 (hwz b (List.mem_of_mem_take hb))⟩
    rw [hlen]
    exact Row.of_ints hl hm hzl hcell

theorem open_prog {r : Reach} {b0 : Nat} {v : Value} {d : DataW H} {ps : List MemPlace} (hval : Value.okWide Tryd.prog w r b0 26 v) (hd : DataW.Trod enc Tryd.prog w base (fun _ => true) held 26 v d ps) :
    ∃ (A : Option Addr) (c : Nat) (A' : Option Addr) (c' : Nat) (p : Prog), p.Fits ∧ v = .agg #[.slice A p.code.length c, .int .i64 p.size, .slice A' p.data.length c'] ∧ ProgV w w.heap.size (.slice A p.code.length c) (.slice A' p.data.length c') p := by
  obtain ⟨cs, rfl, _⟩ := okWide_struct Tryd.underlying26 hval
  obtain ⟨fuel, hf⟩ := hd
  obtain ⟨xs, n, _, _, hlen, hxl, hg⟩ := DataW.trod_struct Tryd.underlying26 hf
  have hC : Tryd.prog.cellsOf 26 = 3 := by kernel_rfl
  have k0 : Tryd.prog.cellsOf 23 = 1 := by kernel_rfl
  have k1 : Tryd.prog.cellsOf 3 = 1 := by kernel_rfl
  have k2 : Tryd.prog.cellsOf 24 = 1 := by kernel_rfl
  rw [hC] at hlen
  have hxl' : xs.length = 3 := hxl
  obtain ⟨l⟩ := cs
  have hl : (Value.agg ⟨l⟩).cells.toList = l := by simp [Value.cells]
  rw [hl] at hlen hg
  match l, hlen with
  | [c0, c1, c2], _ =>
    have g0 : DataW.trod enc Tryd.prog w base (fun _ => true) held n 23 [c0] = some xs[0] := by
      have := hg 0 _ rfl
      rw [List.getElem?_eq_getElem (by omega)] at this
      simpa [k0] using this
    have g1 : DataW.trod enc Tryd.prog w base (fun _ => true) held n 3 [c1] = some xs[1] := by
      have := hg 1 _ rfl
      rw [List.getElem?_eq_getElem (by omega)] at this
      simpa [k1] using this
    have g2 : DataW.trod enc Tryd.prog w base (fun _ => true) held n 24 [c2] = some xs[2] := by
      have := hg 2 _ rfl
      rw [List.getElem?_eq_getElem (by omega)] at this
      simpa [k2] using this
    obtain ⟨A, c, code, e0, h0, f0⟩ := open_code Tryd.underlying23 g0
    obtain ⟨sz, e1, _, f1⟩ := DataW.trod_int Tryd.underlying3 g1
    obtain ⟨A', c', data, e2, h2, f2⟩ := open_bytes Tryd.underlying24 g2
    simp only [List.cons.injEq, and_true] at e0 e1 e2
    subst e0 e1 e2
    exact ⟨A, c, A', c', ⟨code, sz, data⟩, ⟨f0, bounds_i64 f1, f2⟩, rfl, ⟨h0, h2⟩⟩
end
end Go.Proofs.YtfdegdbknponkaaDoor.Words

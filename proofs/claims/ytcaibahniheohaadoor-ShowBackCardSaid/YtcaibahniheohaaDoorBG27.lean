/- Several texts in one: SayWords, AsmSayEnd, SayLines, SayShow. -/
import Derived.Test.YtcaibahniheohaaDoorBSAsmSay
import Derived.Test.YtcaibahniheohaaDoorBG07
import Derived.Test.YtcaibahniheohaaDoorBSImgMath
import Derived.Test.YtcaibahniheohaaDoorBG03
import Derived.Test.YtcaibahniheohaaDoorBG05

/- Words, registers, numbers and instructions as pieces of a text. Plain mathematics. -/
namespace Go.Proofs.YtcaibahniheohaaDoor.Words
set_option maxRecDepth 100000
set_option linter.unusedVariables false
set_option linter.unusedSimpArgs false
open Go.Lib
def isNameB (t : List UInt8) : Bool := (match t with | c :: _ => firstR (c.toNat : Int) | [] => false) && t.all inName
theorem isName_of {t : List UInt8} (h : isNameB t = true) : IsName t := by
  unfold isNameB at h
  rw [Bool.and_eq_true] at h
  cases t with
  | nil => exact absurd h.1 (by simp)
  | cons c r => exact ⟨⟨c, r, rfl, h.1⟩, fun x hx => List.all_eq_true.1 h.2 x hx⟩
theorem nameN_names : ((List.range 42).all fun op => decide (op = 0) || isNameB (nameN (op : Int))) = true := by decide +kernel
theorem nameN_name {op : Int} (h : 1 ≤ op ∧ op ≤ 41) : IsName (nameN op) := by
  have := List.all_eq_true.1 nameN_names op.toNat (List.mem_range.2 (by omega))
  rw [Bool.or_eq_true, decide_eq_true_eq, show ((op.toNat : Nat) : Int) = op by omega] at this
  rcases this with this | this
  · omega
  · exact isName_of this
theorem regN_names : ((List.range 16).all fun d => isNameB (regN (d : Int))) = true := by decide +kernel
theorem regN_name {d : Int} (h : 0 ≤ d ∧ d ≤ 15) : IsName (regN d) := by
  have := List.all_eq_true.1 regN_names d.toNat (List.mem_range.2 (by omega))
  rw [show ((d.toNat : Nat) : Int) = d by omega] at this
  exact isName_of this
theorem size_name : IsName sizeN := isName_of (by decide +kernel)
theorem byte_name : IsName byteN := isName_of (by decide +kernel)
theorem nameN_len {op : Int} (h : 1 ≤ op ∧ op ≤ 41) : (nameN op).length ≤ 4 := by
  have key : ((List.range 42).all fun op => decide ((nameN (op : Int)).length ≤ 4)) = true := by decide +kernel
  have := List.all_eq_true.1 key op.toNat (List.mem_range.2 (by omega))
  rw [decide_eq_true_eq, show ((op.toNat : Nat) : Int) = op by omega] at this
  exact this
theorem regN_len {d : Int} (h : 0 ≤ d ∧ d ≤ 15) : (regN d).length ≤ 3 := by
  have key : ((List.range 16).all fun op => decide ((regN (op : Int)).length ≤ 3)) = true := by decide +kernel
  have := List.all_eq_true.1 key d.toNat (List.mem_range.2 (by omega))
  rw [decide_eq_true_eq, show ((d.toNat : Nat) : Int) = d by omega] at this
  exact this
theorem decN_num {n : Int} (h : -4294967296 ≤ n ∧ n ≤ 4294967296) : IsNum n (decN n) := by
  have hdig := digs_dig (b := 10) (by omega) (by omega) false n.natAbs
  by_cases h0 : n < 0
  · have e : decN n = 45 :: digs 10 false n.natAbs := by unfold decN; rw [if_pos h0]
    rw [e]
    refine ⟨⟨45, _, rfl, .inl (by decide)⟩, ?_, ?_, h⟩
    · intro c hc
      rcases List.mem_cons.1 hc with rfl | hc
      · decide
      · exact (hdig c hc).low
    · rw [numZ_neg, List.length_cons]
      congr 1
      · omega
      · omega
  · have e : decN n = digs 10 false n.natAbs := by unfold decN; rw [if_neg h0]
    rw [e]
    obtain ⟨c, r, hc, h1, h2⟩ := digs_head (n := n.natAbs)
    refine ⟨⟨c, r, hc, .inr ⟨h1, h2⟩⟩, fun c hc => (hdig c hc).low, ?_, h⟩
    rw [numZ_dec]
    congr 1
    omega
/-! ### instructions -/
abbrev SP : Pc := .blank 32
abbrev CM : Pc := .sign 44
def tgtP (i : Ins) (t nt : List UInt8) : Pc := if t = [] then .num i.imm nt else .name t
def insPcs (i : Ins) (t nt : List UInt8) : List Pc :=
  .name (nameN i.op) ::
  (if formZ i.op = 1 then [SP, .name (regN i.d), CM, SP, .name (regN i.a), CM, SP, .name (regN i.b)]
  else if formZ i.op = 2 then [SP, .name (regN i.d), CM, SP, .name (regN i.a), CM, SP, .num i.imm nt]
  else if formZ i.op = 3 then [SP, .name (regN i.d), CM, SP, .num i.imm nt]
  else if formZ i.op = 4 then [SP, .name (regN i.d), CM, SP, .num i.imm nt, .sign 40, .name (regN i.a), .sign 41]
  else if formZ i.op = 5 then [SP, .name (regN i.b), CM, SP, .num i.imm nt, .sign 40, .name (regN i.a), .sign 41]
  else if formZ i.op = 6 then [SP, .name (regN i.a), CM, SP, .name (regN i.b), CM, SP, tgtP i t nt]
  else if formZ i.op = 7 then [SP, tgtP i t nt]
  else [])
theorem lexK_tgt (i : Ins) (t nt : List UInt8) (o : Bool) (ps : List Pc) : lexK o (tgtP i t nt :: ps) = tgtK i t :: lexK true ps := by
  unfold tgtP tgtK; split <;> rfl
theorem openK_tgt (i : Ins) (t nt : List UInt8) (o : Bool) (ps : List Pc) : openK o (tgtP i t nt :: ps) = openK true ps := by
  unfold tgtP; split <;> rfl
theorem stmKeys_ins (i : Ins) (t : List UInt8) : stmKeys (.ins i t) = kN (nameN i.op) :: insKeys i t := rfl
theorem lexK_ins (i : Ins) (t nt : List UInt8) (o : Bool) : lexK o (insPcs i t nt) = stmKeys (.ins i t) ∧ openK o (insPcs i t nt) = true := by
  rw [stmKeys_ins]
  unfold insPcs insKeys
  rcases formZ_cases i.op with ⟨hf, _⟩ | ⟨hf, _⟩ | ⟨hf, _⟩ | ⟨hf, _⟩ | ⟨hf, _⟩ | ⟨hf, _⟩ | ⟨hf, _⟩ | ⟨hf, _⟩ | ⟨hf, _⟩ <;>
    (rw [hf]; simp [lexK, openK, lexK_tgt, openK_tgt])
theorem goodP_tgt {i : Ins} {t nt : List UInt8} (hn : IsNum i.imm nt) (ht : t ≠ [] → IsName t) : okP (tgtP i t nt) := by
  unfold tgtP; split
  · exact hn
  · rename_i h; exact ht h
theorem next_nil (p : Pc) : nextP p [] := by cases p <;> trivial
theorem goodP_ins {i : Ins} {t nt : List UInt8} (hr : rightB i = true) (hn : IsNum i.imm nt) (ht : t ≠ [] → IsName t) : goodP (insPcs i t nt) := by
  obtain ⟨ho, hd, ha, hb, _⟩ := right_range hr
  have n0 := nameN_name ho
  have nd := regN_name hd
  have na := regN_name ha
  have nb := regN_name hb
  have hg := goodP_tgt hn ht
  have hc : okP CM := .inl rfl
  have hs : okP SP := .inl rfl
  have ho1 : okP (.sign 40) := .inr (.inr (.inl rfl))
  have ho2 : okP (.sign 41) := .inr (.inr (.inr rfl))
  unfold insPcs
  repeat' split
  · exact ⟨n0, trivial, hs, trivial, nd, trivial, hc, trivial, hs, trivial, na, trivial, hc, trivial, hs, trivial, nb, trivial, trivial⟩
  · exact ⟨n0, trivial, hs, trivial, nd, trivial, hc, trivial, hs, trivial, na, trivial, hc, trivial, hs, trivial, hn, trivial, trivial⟩
  · exact ⟨n0, trivial, hs, trivial, nd, trivial, hc, trivial, hs, trivial, hn, trivial, trivial⟩
  · exact ⟨n0, trivial, hs, trivial, nd, trivial, hc, trivial, hs, trivial, hn, trivial, ho1, trivial, na, trivial, ho2, trivial, trivial⟩
  · exact ⟨n0, trivial, hs, trivial, nb, trivial, hc, trivial, hs, trivial, hn, trivial, ho1, trivial, na, trivial, ho2, trivial, trivial⟩
  · refine ⟨n0, trivial, hs, trivial, na, trivial, hc, trivial, hs, trivial, nb, trivial, hc, trivial, hs, ?_, hg, next_nil _, trivial⟩
    unfold tgtP; split <;> trivial
  · refine ⟨n0, trivial, hs, ?_, hg, next_nil _, trivial⟩
    unfold tgtP; split <;> trivial
  · exact ⟨n0, trivial, trivial⟩
def isHash : Pc → Bool
  | .hash _ => true
  | _ => false
theorem ins_nohash (i : Ins) (t nt : List UInt8) : ∀ p ∈ insPcs i t nt, isHash p = false := by
  have h : (insPcs i t nt).all (fun p => !isHash p) = true := by
    unfold insPcs
    rcases formZ_cases i.op with ⟨hf, _⟩ | ⟨hf, _⟩ | ⟨hf, _⟩ | ⟨hf, _⟩ | ⟨hf, _⟩ | ⟨hf, _⟩ | ⟨hf, _⟩ | ⟨hf, _⟩ | ⟨hf, _⟩ <;>
      (rw [hf]; unfold tgtP; by_cases ht : t = [] <;> simp [isHash, ht])
  intro p hp
  have := List.all_eq_true.1 h p hp
  simpa using this
theorem nohash_ne {p : Pc} (h : isHash p = false) (u : List UInt8) : p ≠ .hash u := by rintro rfl; cases h
def softN : List Pc → Bool
  | .name _ :: _ => false
  | .num _ _ :: _ => false
  | _ => true
theorem goodP_behind {a b : List Pc} (ha : goodP a) (hn : ∀ p ∈ a, isHash p = false) (hb : goodP b) (hs : softN b = true) : goodP (a ++ b) := by
  refine goodP_append a b ha hb (fun x hx => ?_)
  have hm := nohash_ne (hn x (List.mem_of_getLast? hx))
  cases b with
  | nil => exact next_nil _
  | cons q qs =>
    cases q with
    | name => cases hs
    | num => cases hs
    | sign c => cases x <;> first | trivial | exact absurd rfl (hm _)
    | blank c => cases x <;> first | trivial | exact absurd rfl (hm _)
    | line => cases x <;> trivial
    | hash t => cases x <;> first | trivial | exact absurd rfl (hm _)
end Go.Proofs.YtcaibahniheohaaDoor.Words

/- The program of a text that is put together of good lines. Plain mathematics. -/
namespace Go.Proofs.YtcaibahniheohaaDoor.Words
set_option maxRecDepth 100000
set_option linter.unusedVariables false
open Go.Lib
theorem asmZ_lines {l : List UInt8} {ps : List Pc} (hl : l = pcText ps) (hg : goodP ps) (hn : l.length ≤ 20000) {z : List Key} (hz : z = [] ∨ z = [k4]) {Ls : List Ln} (ho : ∀ L ∈ Ls, LnOk L)
    (hk : lexK false ps = textKeys z Ls) {q : Prog} (hq : layK (Ls.flatMap lnParts) [] (Ls.flatMap lnParts) ⟨[], 0, []⟩ = some q) : asmZ l = checkZ q := by
  subst hl
  obtain ⟨T, t1, t2⟩ := lexZ_pcs hg hn
  obtain ⟨xs, x1, x2⟩ := textF_keys hz Ls T.length T ho (Nat.le_refl _) (t1.trans hk)
  have hT : textT T = (true, [], xs) := x2
  unfold asmZ partsZ endZ
  rw [t2]
  simp only
  rw [hT, if_pos rfl]
  simp only
  have := layF_K xs xs [] ⟨[], 0, []⟩ q (by rw [x1]; exact hq)
  rw [this]
end Go.Proofs.YtcaibahniheohaaDoor.Words

/- Texts of whole lines: pieces that end with a line's end, and the lines that they are. Plain mathematics. -/
namespace Go.Proofs.YtcaibahniheohaaDoor.Words
set_option maxRecDepth 100000
set_option linter.unusedVariables false
set_option linter.unusedSimpArgs false
open Go.Lib
def flatK (Ls : List Ln) : List Key := Ls.flatMap fun L => lnKeys L ++ [k4]
theorem flatK_append (a b : List Ln) : flatK (a ++ b) = flatK a ++ flatK b := by simp [flatK]
structure Blk (ps : List Pc) (Ls : List Ln) : Prop where
  good : goodP ps
  last : ∀ x, ps.getLast? = some x → x = .line
  keys : lexK false ps = flatK Ls
  opn : openK false ps = false
  ok : ∀ L ∈ Ls, LnOk L
theorem last_app {α : Type} (a : List α) {b : List α} (hb : b ≠ []) : (a ++ b).getLast? = b.getLast? := by
  rw [List.getLast?_append]
  cases h : b.getLast? with
  | none => exact absurd (List.getLast?_eq_none_iff.1 h) hb
  | some x => rfl
theorem Blk.nil : Blk [] [] := ⟨trivial, (fun x h => by cases h), rfl, rfl, (fun L h => by cases h)⟩
theorem Blk.append {a b : List Pc} {la lb : List Ln} (h : Blk a la) (g : Blk b lb) : Blk (a ++ b) (la ++ lb) := by
  refine ⟨goodP_append a b h.good g.good (fun x hx => ?_), fun x hx => ?_, ?_, ?_, fun L hL => ?_⟩
  · rw [h.last x hx]; trivial
  · cases b with
    | nil => rw [List.append_nil] at hx; exact h.last x hx
    | cons p b => rw [last_app _ (by simp)] at hx; exact g.last x hx
  · rw [lexK_append, h.opn, h.keys, g.keys, flatK_append]
  · rw [openK_append, h.opn, g.opn]
  · rcases List.mem_append.1 hL with hL | hL
    · exact h.ok L hL
    · exact g.ok L hL
/-! ### how a line ends -/
def sizePcs (n : Int) : List Pc := [.name sizeN, SP, .num n (decN n)]
theorem size_ln (n : Int) : LnOk ⟨[], .size n⟩ := ⟨trivial, by simp [lnKeys, labKeys, stmKeys]⟩
theorem bytes_ln (n : Int) (ns : List Int) : LnOk ⟨[], .bytes n ns⟩ := ⟨trivial, by simp [lnKeys, labKeys, stmKeys]⟩
/-! ### what plain lines are laid as -/
def byteK (n : Int) : PartK := ⟨4, n, [], ins0, key0⟩
def insK (i : Ins) : PartK := ⟨2, 0, [], i, key0⟩
theorem layK_kc (all pre xs : List PartK) (x : PartK) (p : Prog) : layK all pre (x :: xs) p =
    if x.kind = 1 then (if hasK x.name pre = true then none else layK all (pre ++ [x]) xs p)
    else if x.kind = 3 then layK all (pre ++ [x]) xs { p with size := x.num }
    else if x.kind = 4 then (if x.num < 0 ∨ 255 < x.num then none else layK all (pre ++ [x]) xs { p with data := p.data ++ [x.num] })
    else if x.kind = 2 then (match aimK all x p.code.length with
      | none => none
      | some i => if rightB i = true then layK all (pre ++ [x]) xs { p with code := p.code ++ [i] } else none)
    else layK all (pre ++ [x]) xs p := rfl
theorem layK_end (all pre : List PartK) (p : Prog) : layK all pre [] p = some p := by unfold layK; rfl
theorem layK_sizes (all pre xs : List PartK) (n : Int) (p : Prog) : layK all pre (⟨3, n, [], ins0, key0⟩ :: xs) p = layK all (pre ++ [⟨3, n, [], ins0, key0⟩]) xs { p with size := n } := by
  rw [layK_kc, if_neg (by simp), if_pos rfl]
theorem layK_bytes : ∀ (bs : List Int) (all pre xs : List PartK) (p : Prog), (∀ b ∈ bs, 0 ≤ b ∧ b ≤ 255) → ∃ pre', layK all pre (bs.map byteK ++ xs) p = layK all pre' xs { p with data := p.data ++ bs }
  | [], all, pre, xs, p, _ => ⟨pre, by simp⟩
  | b :: bs, all, pre, xs, p, h => by
    obtain ⟨pre', h'⟩ := layK_bytes bs all (pre ++ [byteK b]) xs { p with data := p.data ++ [b] } (fun c hc => h c (by simp [hc]))
    refine ⟨pre', ?_⟩
    have hb := h b (by simp)
    rw [List.map_cons, List.cons_append]
    unfold byteK at h' ⊢
    rw [layK_kc, if_neg (by simp), if_neg (by simp), if_pos rfl, if_neg (by simp only; omega), h']
    simp
theorem layK_codes : ∀ (is : List Ins) (all pre xs : List PartK) (p : Prog), (∀ i ∈ is, rightB i = true) → ∃ pre', layK all pre (is.map insK ++ xs) p = layK all pre' xs { p with code := p.code ++ is }
  | [], all, pre, xs, p, _ => ⟨pre, by simp⟩
  | i :: is, all, pre, xs, p, h => by
    obtain ⟨pre', h'⟩ := layK_codes is all (pre ++ [insK i]) xs { p with code := p.code ++ [i] } (fun c hc => h c (by simp [hc]))
    refine ⟨pre', ?_⟩
    rw [List.map_cons, List.cons_append]
    unfold insK at h' ⊢
    rw [layK_kc, if_neg (by simp), if_neg (by simp), if_neg (by simp), if_pos rfl]
    unfold aimK
    rw [if_neg (by simp)]
    simp only
    rw [if_pos (h i (by simp)), h']
    simp
theorem lay_prog {p : Prog} (hr : p.right = true) (hd : ∀ b ∈ p.data, 0 ≤ b ∧ b ≤ 255) (all : List PartK) : layK all [] (⟨3, p.size, [], ins0, key0⟩ :: (p.data.map byteK ++ p.code.map insK)) ⟨[], 0, []⟩ = some p := by
  obtain ⟨_, ha, _⟩ := right_parts hr
  rw [layK_sizes]
  obtain ⟨p1, h1⟩ := layK_bytes p.data all _ (p.code.map insK) { code := [], size := p.size, data := [] } hd
  obtain ⟨p2, h2⟩ := layK_codes p.code all p1 [] { code := [], size := p.size, data := [] ++ p.data } (fun i hi => List.all_eq_true.1 ha i hi)
  rw [List.append_nil] at h2
  rw [h1, h2, layK_end]
  simp
theorem check_right {p : Prog} (hr : p.right = true) : checkZ p = .ok p := by
  have h := hr
  rw [right_prog] at h
  have ht := (right_parts hr).2.2
  unfold checkZ
  rw [if_neg (by show ¬ p.targets = false; rw [ht]; decide), if_pos h]
end Go.Proofs.YtcaibahniheohaaDoor.Words

/- What an instruction is shown as, piece by piece. Plain mathematics. -/
namespace Go.Proofs.YtcaibahniheohaaDoor.Words
set_option maxRecDepth 100000
set_option linter.unusedVariables false
set_option linter.unusedSimpArgs false
open Go.Lib
def showP (i : Ins) : List Pc := insPcs i [] (decN i.imm)
def showI (i : Ins) : List UInt8 := pcText (showP i)
def showZ (i : Ins) : List UInt8 := if rightB i = true then showI i else []
theorem regS_len {n : Int} (h : 0 ≤ n ∧ n ≤ 15) : (regS n).length ≤ 3 := by rw [regS_eq h]; exact regN_len h
theorem showI_form {i : Ins} {k : Int} (hf : formZ i.op = k) : showI i = nameN i.op ++ pcText
  (if k = 1 then [SP, .name (regN i.d), CM, SP, .name (regN i.a), CM, SP, .name (regN i.b)]
  else if k = 2 then [SP, .name (regN i.d), CM, SP, .name (regN i.a), CM, SP, .num i.imm (decN i.imm)]
  else if k = 3 then [SP, .name (regN i.d), CM, SP, .num i.imm (decN i.imm)]
  else if k = 4 then [SP, .name (regN i.d), CM, SP, .num i.imm (decN i.imm), .sign 40, .name (regN i.a), .sign 41]
  else if k = 5 then [SP, .name (regN i.b), CM, SP, .num i.imm (decN i.imm), .sign 40, .name (regN i.a), .sign 41]
  else if k = 6 then [SP, .name (regN i.a), CM, SP, .name (regN i.b), CM, SP, .num i.imm (decN i.imm)]
  else if k = 7 then [SP, .num i.imm (decN i.imm)]
  else []) := by
  unfold showI showP insPcs
  rw [pcText_cons, hf]
  rfl
theorem decN_len8 {n : Int} (h : -8192 ≤ n ∧ n ≤ 8191) : (decN n).length ≤ 12 := decN_len (by omega)
theorem showI_len {i : Ins} (hr : rightB i = true) : (showI i).length ≤ 40 := by
  obtain ⟨ho, hd, ha, hb, hi⟩ := right_range hr
  have l0 := nameN_len ho
  have l1 := decN_len8 hi
  have l2 := regN_len hd
  have l3 := regN_len ha
  have l4 := regN_len hb
  rw [showI_form rfl, List.length_append]
  rcases formZ_cases i.op with ⟨hf, _⟩ | ⟨hf, _⟩ | ⟨hf, _⟩ | ⟨hf, _⟩ | ⟨hf, _⟩ | ⟨hf, _⟩ | ⟨hf, _⟩ | ⟨hf, _⟩ | ⟨hf, _⟩ <;>
    (rw [hf]; simp [pcText, Pc.text]; omega)
theorem formZ_right {i : Ins} (hr : rightB i = true) : 1 ≤ formZ i.op ∧ formZ i.op ≤ 8 := by
  have h0 : formZ i.op ≠ 0 := by
    intro h
    rw [right_none (by simp [h])] at hr
    exact absurd hr (by decide)
  have := formZ_range i.op
  omega
end Go.Proofs.YtcaibahniheohaaDoor.Words

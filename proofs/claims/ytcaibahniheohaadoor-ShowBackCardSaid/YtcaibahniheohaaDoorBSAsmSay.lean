/- Programs of lines: the tokens of each line, and what program they are, wherever they stand. Plain mathematics. -/
import Derived.Test.YtcaibahniheohaaDoorBG26
import Derived.Test.YtcaibahniheohaaDoorBG00
import Derived.Test.YtcaibahniheohaaDoorBG03
namespace Go.Proofs.YtcaibahniheohaaDoor.Words
set_option maxRecDepth 100000
set_option linter.unusedVariables false
set_option linter.unusedSimpArgs false
open Go.Lib
abbrev kN (t : List UInt8) : Key := ⟨1, 0, t⟩
abbrev kI (n : Int) : Key := ⟨2, n, []⟩
abbrev kS (c : UInt8) : Key := ⟨3, 0, [c]⟩
abbrev k4 : Key := ⟨4, 0, [10]⟩
def nameN (op : Int) : List UInt8 := namesZ.getD (op - 1).toNat []
theorem nameN_all : ((List.range 42).all fun op => decide (op = 0) || decide (opZ (nameN (op : Int)) = (op : Int))) = true := by decide +kernel
theorem nameN_op {op : Int} (h : 1 ≤ op ∧ op ≤ 41) : opZ (nameN op) = op := by
  have := List.all_eq_true.1 nameN_all op.toNat (List.mem_range.2 (by omega))
  rw [Bool.or_eq_true, decide_eq_true_eq, decide_eq_true_eq, show ((op.toNat : Nat) : Int) = op by omega] at this
  rcases this with this | this
  · omega
  · exact this
inductive Stm where
  | none
  | size (n : Int)
  | bytes (n : Int) (ns : List Int)
  | ins (i : Ins) (t : List UInt8)
structure Ln where
  labs : List (List UInt8)
  stm : Stm
def tgtK (i : Ins) (t : List UInt8) : Key := if t = [] then kI i.imm else kN t
def insKeys (i : Ins) (t : List UInt8) : List Key :=
  if formZ i.op = 1 then [kN (regN i.d), kS 44, kN (regN i.a), kS 44, kN (regN i.b)]
  else if formZ i.op = 2 then [kN (regN i.d), kS 44, kN (regN i.a), kS 44, kI i.imm]
  else if formZ i.op = 3 then [kN (regN i.d), kS 44, kI i.imm]
  else if formZ i.op = 4 then [kN (regN i.d), kS 44, kI i.imm, kS 40, kN (regN i.a), kS 41]
  else if formZ i.op = 5 then [kN (regN i.b), kS 44, kI i.imm, kS 40, kN (regN i.a), kS 41]
  else if formZ i.op = 6 then [kN (regN i.a), kS 44, kN (regN i.b), kS 44, tgtK i t]
  else if formZ i.op = 7 then [tgtK i t]
  else []
def byteKeys (ns : List Int) : List Key := ns.flatMap fun m => [kS 44, kI m]
def stmKeys : Stm → List Key
  | .none => []
  | .size n => [kN sizeN, kI n]
  | .bytes n ns => kN byteN :: kI n :: byteKeys ns
  | .ins i t => kN (nameN i.op) :: insKeys i t
def labKeys (l : List (List UInt8)) : List Key := l.flatMap fun t => [kN t, kS 58]
def lnKeys (L : Ln) : List Key := labKeys L.labs ++ stmKeys L.stm
structure InsOk (i : Ins) (t : List UInt8) : Prop where
  right : rightB i = true
  tgt : t ≠ [] → (formZ i.op = 6 ∨ formZ i.op = 7) ∧ i.imm = 0
def StmOk : Stm → Prop
  | .ins i t => InsOk i t
  | _ => True
def LnOk (L : Ln) : Prop := StmOk L.stm ∧ lnKeys L ≠ []
structure PartK where
  kind : Int
  num : Int
  name : List UInt8
  ins : Ins
  target : Key
deriving DecidableEq
def partK (x : PartZ) : PartK := ⟨x.kind, x.num, x.name, x.ins, keyK x.target⟩
abbrev key0 : Key := ⟨0, 0, []⟩
def stmParts : Stm → List PartK
  | .none => []
  | .size n => [⟨3, n, [], ins0, key0⟩]
  | .bytes n ns => ⟨4, n, [], ins0, key0⟩ :: ns.map fun m => ⟨4, m, [], ins0, key0⟩
  | .ins i t => [⟨2, 0, [], i, if t = [] then key0 else kN t⟩]
def labParts (l : List (List UInt8)) : List PartK := l.map fun t => ⟨1, 0, t, ins0, key0⟩
def lnParts (L : Ln) : List PartK := labParts L.labs ++ stmParts L.stm
theorem keys_cons {T : List Tok} {k : Key} {ks : List Key} (h : T.map keyK = k :: ks) : ∃ t T', T = t :: T' ∧ keyK t = k ∧ T'.map keyK = ks := by
  cases T with
  | nil => cases h
  | cons t T' =>
    rw [List.map_cons] at h
    injection h with h1 h2
    exact ⟨t, T', rfl, h1, h2⟩
theorem keys_nil {T : List Tok} (h : T.map keyK = []) : T = [] := List.map_eq_nil_iff.1 h
theorem keys_append {T : List Tok} {a b : List Key} (h : T.map keyK = a ++ b) : ∃ A B, T = A ++ B ∧ A.map keyK = a ∧ B.map keyK = b := by
  obtain ⟨A, B, h1, h2, h3⟩ := List.map_eq_append_iff.1 h
  exact ⟨A, B, h1, h2, h3⟩
theorem key_N {t : Tok} {x : List UInt8} (h : keyK t = kN x) : t.kind = 1 ∧ t.text = x := by
  unfold keyK at h
  injection h with h1 h2 h3
  rw [if_neg (by omega)] at h3
  exact ⟨h1, h3⟩
theorem key_I {t : Tok} {n : Int} (h : keyK t = kI n) : t.kind = 2 ∧ t.num = n := by
  unfold keyK at h
  injection h with h1 h2 h3
  exact ⟨h1, h2⟩
theorem key_S {t : Tok} {c : UInt8} (h : keyK t = kS c) : t.kind = 3 ∧ t.text = [c] := by
  unfold keyK at h
  injection h with h1 h2 h3
  rw [if_neg (by omega)] at h3
  exact ⟨h1, h3⟩
theorem key_4 {t : Tok} (h : keyK t = k4) : t.kind = 4 := by
  unfold keyK at h
  injection h
theorem isS_of {t : Tok} {c : UInt8} (h : keyK t = kS c) : isS t [c] = true := by
  obtain ⟨h1, h2⟩ := key_S h
  unfold isS; simp [h1, h2]
theorem byteKeys_len (ns : List Int) : (byteKeys ns).length = 2 * ns.length := by
  induction ns with
  | nil => rfl
  | cons n ns ih => have e : byteKeys (n :: ns) = kS 44 :: kI n :: byteKeys ns := by simp [byteKeys]
                    rw [e, List.length_cons, List.length_cons, ih, List.length_cons]; omega
theorem labKeys_len (l : List (List UInt8)) : (labKeys l).length = 2 * l.length := by
  induction l with
  | nil => rfl
  | cons t l ih => have e : labKeys (t :: l) = kN t :: kS 58 :: labKeys l := by simp [labKeys]
                   rw [e, List.length_cons, List.length_cons, ih, List.length_cons]; omega
/-! ### fields -/
theorem regT_kc (t : Tok) (r : List Tok) : regT (t :: r) = match regZ t.text with | some n => (some n, r) | none => (none, t :: r) := rfl
theorem immT_kc (t : Tok) (r : List Tok) : immT (t :: r) = if t.kind = 2 then (some t.num, r) else (none, t :: r) := rfl
theorem signT_kc (c : List UInt8) (t : Tok) (r : List Tok) : signT c (t :: r) = if isS t c = true then (true, r) else (false, t :: r) := rfl
theorem numT_kc (k : Int) (t : Tok) (r : List Tok) : numT k (t :: r) = if t.kind = 2 then (true, r, [⟨k, t.at_, t.num, [], ins0, tok0⟩]) else (false, t :: r, []) := rfl
theorem endT_kc (t : Tok) (r : List Tok) : endT (t :: r) = if t.kind = 4 then (true, r) else (false, t :: r) := rfl
theorem labelT_kc (n c : Tok) (ts : List Tok) : labelT (n :: c :: ts) = if n.kind = 1 ∧ isS c [58] = true then some (⟨1, n.at_, 0, n.text, ins0, tok0⟩, ts) else none := rfl
section
variable {x : PartZ} {t : Tok} {r : List Tok} {cs : List UInt8}
theorem regT_of {n : Int} (h : keyK t = kN (regN n)) (hn : 0 ≤ n ∧ n ≤ 15) : regT (t :: r) = (some n, r) := by
  obtain ⟨h1, h2⟩ := key_N h
  rw [regT_kc, h2, regN_reg hn]
theorem immT_of {n : Int} (h : keyK t = kI n) : immT (t :: r) = (some n, r) := by
  obtain ⟨h1, h2⟩ := key_I h
  rw [immT_kc, if_pos h1, h2]
theorem f_d {n : Int} (h : keyK t = kN (regN n)) (hn : 0 ≤ n ∧ n ≤ 15) : fieldsT (68 :: cs) x (t :: r) = fieldsT cs { x with ins := { x.ins with d := n } } r := by
  have : fieldT ((68 : UInt8).toNat : Int) x (t :: r) = (true, { x with ins := { x.ins with d := n } }, r) := by
    unfold fieldT; rw [if_pos (by decide), regT_of h hn]
  conv => lhs; unfold fieldsT
  rw [this, if_pos rfl]
theorem f_a {n : Int} (h : keyK t = kN (regN n)) (hn : 0 ≤ n ∧ n ≤ 15) : fieldsT (65 :: cs) x (t :: r) = fieldsT cs { x with ins := { x.ins with a := n } } r := by
  have : fieldT ((65 : UInt8).toNat : Int) x (t :: r) = (true, { x with ins := { x.ins with a := n } }, r) := by
    unfold fieldT; rw [if_neg (by decide), if_pos (by decide), regT_of h hn]
  conv => lhs; unfold fieldsT
  rw [this, if_pos rfl]
theorem f_b {n : Int} (h : keyK t = kN (regN n)) (hn : 0 ≤ n ∧ n ≤ 15) : fieldsT (66 :: cs) x (t :: r) = fieldsT cs { x with ins := { x.ins with b := n } } r := by
  have : fieldT ((66 : UInt8).toNat : Int) x (t :: r) = (true, { x with ins := { x.ins with b := n } }, r) := by
    unfold fieldT; rw [if_neg (by decide), if_neg (by decide), if_pos (by decide), regT_of h hn]
  conv => lhs; unfold fieldsT
  rw [this, if_pos rfl]
theorem f_n {n : Int} (h : keyK t = kI n) : fieldsT (78 :: cs) x (t :: r) = fieldsT cs { x with ins := { x.ins with imm := n } } r := by
  have : fieldT ((78 : UInt8).toNat : Int) x (t :: r) = (true, { x with ins := { x.ins with imm := n } }, r) := by
    unfold fieldT; rw [if_neg (by decide), if_neg (by decide), if_neg (by decide), if_pos (by decide), immT_of h]
  conv => lhs; unfold fieldsT
  rw [this, if_pos rfl]
theorem f_ti {n : Int} (h : keyK t = kI n) : fieldsT (84 :: cs) x (t :: r) = fieldsT cs { x with ins := { x.ins with imm := n } } r := by
  have : fieldT ((84 : UInt8).toNat : Int) x (t :: r) = (true, { x with ins := { x.ins with imm := n } }, r) := by
    unfold fieldT; rw [if_neg (by decide), if_neg (by decide), if_neg (by decide), if_neg (by decide), if_pos (by decide)]
    simp only
    rw [if_neg (by have := (key_I h).1; omega), immT_of h]
  conv => lhs; unfold fieldsT
  rw [this, if_pos rfl]
theorem f_tn {s : List UInt8} (h : keyK t = kN s) : fieldsT (84 :: cs) x (t :: r) = fieldsT cs { x with target := t } r := by
  have : fieldT ((84 : UInt8).toNat : Int) x (t :: r) = (true, { x with target := t }, r) := by
    unfold fieldT; rw [if_neg (by decide), if_neg (by decide), if_neg (by decide), if_neg (by decide), if_pos (by decide)]
    simp only
    rw [if_pos (key_N h).1]
  conv => lhs; unfold fieldsT
  rw [this, if_pos rfl]
theorem f_s {c : UInt8} (h : keyK t = kS c) (hc : c = 44 ∨ c = 40 ∨ c = 41) : fieldsT (c :: cs) x (t :: r) = fieldsT cs x r := by
  have : fieldT (c.toNat : Int) x (t :: r) = (true, x, r) := by
    have hs : signT [UInt8.ofNat (c.toNat : Int).toNat] (t :: r) = (true, r) := by
      rw [signT_kc, show (UInt8.ofNat (c.toNat : Int).toNat) = c by simp, if_pos (isS_of h)]
    unfold fieldT
    rw [if_neg (by rcases hc with rfl | rfl | rfl <;> decide), if_neg (by rcases hc with rfl | rfl | rfl <;> decide), if_neg (by rcases hc with rfl | rfl | rfl <;> decide), if_neg (by rcases hc with rfl | rfl | rfl <;> decide), if_neg (by rcases hc with rfl | rfl | rfl <;> decide), hs]
  conv => lhs; unfold fieldsT
  rw [this, if_pos rfl]
end
theorem fields_end {x : PartZ} {r : List Tok} : fieldsT [] x r = (true, x, r) := rfl
theorem shape_of {op k : Int} (h : formZ op = k) : shapeZ op = shapesZ.getD k.toNat [] := by unfold shapeZ; rw [h]
theorem ins_fields {i : Ins} {t : List UInt8} (ho : InsOk i t) {T : List Tok} (hT : T.map keyK = insKeys i t) (r : List Tok) (at_ : Nat) :
    ∃ g : Tok, keyK g = (if t = [] then key0 else kN t) ∧ fieldsT (shapeZ i.op) ⟨2, at_, 0, [], ⟨i.op, 0, 0, 0, 0⟩, tok0⟩ (T ++ r) = (true, ⟨2, at_, 0, [], i, g⟩, r) := by
  have hr := ho.right
  have hrg := right_range hr
  have hz := (rightB_iff i).1 hr
  obtain ⟨op, d, a, b, imm⟩ := i
  simp only at hrg hz hT ⊢
  obtain ⟨_, hd, ha, hb, _⟩ := hrg
  obtain ⟨_, z1, z2, z3, z4⟩ := hz
  have hnt : (formZ op ≠ 6 ∧ formZ op ≠ 7) → t = [] := fun h => Classical.byContradiction fun hne => by have := (ho.tgt hne).1; simp only at this; omega
  unfold insKeys tgtK at hT
  simp only at hT
  rcases formZ_cases op with ⟨hf, h⟩ | ⟨hf, h⟩ | ⟨hf, h⟩ | ⟨hf, h⟩ | ⟨hf, h⟩ | ⟨hf, h⟩ | ⟨hf, h⟩ | ⟨hf, h⟩ | ⟨hf, h⟩
  · omega
  · rw [hf] at hT
    have ht := hnt (by omega)
    subst ht
    rw [if_pos rfl] at hT
    obtain ⟨t1, T, rfl, e1, hT⟩ := keys_cons hT
    obtain ⟨t2, T, rfl, e2, hT⟩ := keys_cons hT
    obtain ⟨t3, T, rfl, e3, hT⟩ := keys_cons hT
    obtain ⟨t4, T, rfl, e4, hT⟩ := keys_cons hT
    obtain ⟨t5, T, rfl, e5, hT⟩ := keys_cons hT
    obtain rfl := keys_nil hT
    refine ⟨tok0, rfl, ?_⟩
    rw [shape_of hf]
    show fieldsT [68, 44, 65, 44, 66] _ (t1 :: t2 :: t3 :: t4 :: t5 :: r) = _
    rw [f_d e1 hd, f_s e2 (by decide), f_a e3 ha, f_s e4 (by decide), f_b e5 hb, fields_end]
    have : imm = 0 := by rw [if_neg (by omega)] at z4; exact z4
    subst this; rfl
  · rw [hf] at hT
    have ht := hnt (by omega)
    subst ht
    rw [if_neg (by decide), if_pos rfl] at hT
    obtain ⟨t1, T, rfl, e1, hT⟩ := keys_cons hT
    obtain ⟨t2, T, rfl, e2, hT⟩ := keys_cons hT
    obtain ⟨t3, T, rfl, e3, hT⟩ := keys_cons hT
    obtain ⟨t4, T, rfl, e4, hT⟩ := keys_cons hT
    obtain ⟨t5, T, rfl, e5, hT⟩ := keys_cons hT
    obtain rfl := keys_nil hT
    refine ⟨tok0, rfl, ?_⟩
    rw [shape_of hf]
    show fieldsT [68, 44, 65, 44, 78] _ (t1 :: t2 :: t3 :: t4 :: t5 :: r) = _
    rw [f_d e1 hd, f_s e2 (by decide), f_a e3 ha, f_s e4 (by decide), f_n e5, fields_end]
    have : b = 0 := by rw [if_neg (by omega)] at z3; exact z3
    subst this; rfl
  · rw [hf] at hT
    have ht := hnt (by omega)
    subst ht
    rw [if_neg (by decide), if_neg (by decide), if_pos rfl] at hT
    obtain ⟨t1, T, rfl, e1, hT⟩ := keys_cons hT
    obtain ⟨t2, T, rfl, e2, hT⟩ := keys_cons hT
    obtain ⟨t3, T, rfl, e3, hT⟩ := keys_cons hT
    obtain rfl := keys_nil hT
    refine ⟨tok0, rfl, ?_⟩
    rw [shape_of hf]
    show fieldsT [68, 44, 78] _ (t1 :: t2 :: t3 :: r) = _
    rw [f_d e1 hd, f_s e2 (by decide), f_n e3, fields_end]
    have h3 : b = 0 := by rw [if_neg (by omega)] at z3; exact z3
    have h2 : a = 0 := by rw [if_neg (by omega)] at z2; exact z2
    subst h3 h2; rfl
  · rw [hf] at hT
    have ht := hnt (by omega)
    subst ht
    rw [if_neg (by decide), if_neg (by decide), if_neg (by decide), if_pos rfl] at hT
    obtain ⟨t1, T, rfl, e1, hT⟩ := keys_cons hT
    obtain ⟨t2, T, rfl, e2, hT⟩ := keys_cons hT
    obtain ⟨t3, T, rfl, e3, hT⟩ := keys_cons hT
    obtain ⟨t4, T, rfl, e4, hT⟩ := keys_cons hT
    obtain ⟨t5, T, rfl, e5, hT⟩ := keys_cons hT
    obtain ⟨t6, T, rfl, e6, hT⟩ := keys_cons hT
    obtain rfl := keys_nil hT
    refine ⟨tok0, rfl, ?_⟩
    rw [shape_of hf]
    show fieldsT [68, 44, 78, 40, 65, 41] _ (t1 :: t2 :: t3 :: t4 :: t5 :: t6 :: r) = _
    rw [f_d e1 hd, f_s e2 (by decide), f_n e3, f_s e4 (by decide), f_a e5 ha, f_s e6 (by decide), fields_end]
    have : b = 0 := by rw [if_neg (by omega)] at z3; exact z3
    subst this; rfl
  · rw [hf] at hT
    have ht := hnt (by omega)
    subst ht
    rw [if_neg (by decide), if_neg (by decide), if_neg (by decide), if_neg (by decide), if_pos rfl] at hT
    obtain ⟨t1, T, rfl, e1, hT⟩ := keys_cons hT
    obtain ⟨t2, T, rfl, e2, hT⟩ := keys_cons hT
    obtain ⟨t3, T, rfl, e3, hT⟩ := keys_cons hT
    obtain ⟨t4, T, rfl, e4, hT⟩ := keys_cons hT
    obtain ⟨t5, T, rfl, e5, hT⟩ := keys_cons hT
    obtain ⟨t6, T, rfl, e6, hT⟩ := keys_cons hT
    obtain rfl := keys_nil hT
    refine ⟨tok0, rfl, ?_⟩
    rw [shape_of hf]
    show fieldsT [66, 44, 78, 40, 65, 41] _ (t1 :: t2 :: t3 :: t4 :: t5 :: t6 :: r) = _
    rw [f_b e1 hb, f_s e2 (by decide), f_n e3, f_s e4 (by decide), f_a e5 ha, f_s e6 (by decide), fields_end]
    have : d = 0 := by rw [if_neg (by omega)] at z1; exact z1
    subst this; rfl
  · rw [hf] at hT
    rw [if_neg (by decide), if_neg (by decide), if_neg (by decide), if_neg (by decide), if_neg (by decide), if_pos rfl] at hT
    obtain ⟨t1, T, rfl, e1, hT⟩ := keys_cons hT
    obtain ⟨t2, T, rfl, e2, hT⟩ := keys_cons hT
    obtain ⟨t3, T, rfl, e3, hT⟩ := keys_cons hT
    obtain ⟨t4, T, rfl, e4, hT⟩ := keys_cons hT
    obtain ⟨t5, T, rfl, e5, hT⟩ := keys_cons hT
    obtain rfl := keys_nil hT
    have h1 : d = 0 := by rw [if_neg (by omega)] at z1; exact z1
    rw [shape_of hf]
    by_cases ht : t = []
    · subst ht
      rw [if_pos rfl] at e5
      refine ⟨tok0, rfl, ?_⟩
      show fieldsT [65, 44, 66, 44, 84] _ (t1 :: t2 :: t3 :: t4 :: t5 :: r) = _
      rw [f_a e1 ha, f_s e2 (by decide), f_b e3 hb, f_s e4 (by decide), f_ti e5, fields_end]
      subst h1; rfl
    · rw [if_neg ht] at e5 ⊢
      refine ⟨t5, e5, ?_⟩
      show fieldsT [65, 44, 66, 44, 84] _ (t1 :: t2 :: t3 :: t4 :: t5 :: r) = _
      rw [f_a e1 ha, f_s e2 (by decide), f_b e3 hb, f_s e4 (by decide), f_tn e5, fields_end]
      have h4 : imm = 0 := (ho.tgt ht).2
      subst h1 h4; rfl
  · rw [hf] at hT
    rw [if_neg (by decide), if_neg (by decide), if_neg (by decide), if_neg (by decide), if_neg (by decide), if_neg (by decide), if_pos rfl] at hT
    obtain ⟨t1, T, rfl, e1, hT⟩ := keys_cons hT
    obtain rfl := keys_nil hT
    have h1 : d = 0 := by rw [if_neg (by omega)] at z1; exact z1
    have h2 : a = 0 := by rw [if_neg (by omega)] at z2; exact z2
    have h3 : b = 0 := by rw [if_neg (by omega)] at z3; exact z3
    rw [shape_of hf]
    by_cases ht : t = []
    · subst ht
      rw [if_pos rfl] at e1
      refine ⟨tok0, rfl, ?_⟩
      show fieldsT [84] _ (t1 :: r) = _
      rw [f_ti e1, fields_end]
      subst h1 h2 h3; rfl
    · rw [if_neg ht] at e1 ⊢
      refine ⟨t1, e1, ?_⟩
      show fieldsT [84] _ (t1 :: r) = _
      rw [f_tn e1, fields_end]
      have h4 : imm = 0 := (ho.tgt ht).2
      subst h1 h2 h3 h4; rfl
  · rw [hf] at hT
    have ht := hnt (by omega)
    subst ht
    rw [if_neg (by decide), if_neg (by decide), if_neg (by decide), if_neg (by decide), if_neg (by decide), if_neg (by decide), if_neg (by decide)] at hT
    obtain rfl := keys_nil hT
    refine ⟨tok0, rfl, ?_⟩
    rw [shape_of hf]
    show fieldsT [] _ ([] ++ r) = _
    rw [fields_end]
    have h1 : d = 0 := by rw [if_neg (by omega)] at z1; exact z1
    have h2 : a = 0 := by rw [if_neg (by omega)] at z2; exact z2
    have h3 : b = 0 := by rw [if_neg (by omega)] at z3; exact z3
    have h4 : imm = 0 := by rw [if_neg (by omega)] at z4; exact z4
    subst h1 h2 h3 h4; rfl
/-! ### lines -/
def Behind (r : List Tok) : Prop := ∀ e r', r = e :: r' → e.kind = 4
theorem Behind.sign {r : List Tok} (h : Behind r) (c : List UInt8) : signT c r = (false, r) := by
  cases r with
  | nil => rfl
  | cons e r' =>
    have h1 := h e r' rfl
    rw [signT_kc, if_neg (by unfold isS; simp [h1])]
theorem Behind.end_ {r : List Tok} (h : Behind r) : endT r = (true, r.tail) := by
  cases r with
  | nil => rfl
  | cons e r' => rw [endT_kc, if_pos (h e r' rfl)]; rfl
theorem byteF_keys : ∀ (ns : List Int) (f : Nat) (T r : List Tok), ns.length ≤ f → T.map keyK = byteKeys ns → Behind r →
    ∃ ps, ps.map partK = (ns.map fun m => (⟨4, m, [], ins0, key0⟩ : PartK)) ∧ byteF f true (T ++ r) = (true, r, ps)
  | [], f, T, r, hf, hT, hr => by
    obtain rfl := keys_nil hT
    refine ⟨[], rfl, ?_⟩
    cases f with
    | zero => rfl
    | succ f =>
      unfold byteF
      rw [List.nil_append, hr.sign, if_pos rfl, if_neg (by simp)]
  | m :: ns, f, T, r, hf, hT, hr => by
    have e : byteKeys (m :: ns) = kS 44 :: kI m :: byteKeys ns := by simp [byteKeys]
    rw [e] at hT
    obtain ⟨t1, T, rfl, e1, hT⟩ := keys_cons hT
    obtain ⟨t2, T, rfl, e2, hT⟩ := keys_cons hT
    obtain ⟨f, rfl⟩ : ∃ g, f = g + 1 := ⟨f - 1, by simp at hf; omega⟩
    obtain ⟨ps, p1, p2⟩ := byteF_keys ns f T r (by simpa using hf) hT hr
    obtain ⟨q1, q2⟩ := key_I e2
    have hs : signT [44] (t1 :: t2 :: (T ++ r)) = (true, t2 :: (T ++ r)) := by rw [signT_kc, if_pos (isS_of e1)]
    have hn : numT 4 (t2 :: (T ++ r)) = (true, T ++ r, [⟨4, t2.at_, m, [], ins0, tok0⟩]) := by rw [numT_kc, if_pos q1, q2]
    refine ⟨⟨4, t2.at_, m, [], ins0, tok0⟩ :: ps, ?_, ?_⟩
    · rw [List.map_cons, List.map_cons, p1]; rfl
    · rw [List.cons_append, List.cons_append]
      unfold byteF
      rw [if_pos rfl, hs, if_pos rfl, hn, p2]
      rfl
theorem size_op : opZ sizeN = 0 := by decide +kernel
theorem byte_op : opZ byteN = 0 := by decide +kernel
theorem stmtT_name {t : Tok} {ts : List Tok} (h : t.kind = 1) : stmtT (t :: ts) = if 0 < opZ t.text then insT (opZ t.text) t.at_ ts else if t.text = sizeN then numT 3 ts else if t.text = byteN then bytesT ts else (false, t :: ts, []) := by
  conv => lhs; unfold stmtT
  simp only
  rw [if_neg (by simp [h])]
theorem stmt_keys {s : Stm} (ho : StmOk s) {T r : List Tok} (hT : T.map keyK = stmKeys s) (hr : Behind r) : ∃ ps, ps.map partK = stmParts s ∧ stmtT (T ++ r) = (true, r, ps) := by
  cases s with
  | none =>
    obtain rfl := keys_nil hT
    refine ⟨[], rfl, ?_⟩
    cases r with
    | nil => rfl
    | cons e r' =>
      have := hr e r' rfl
      show stmtT (e :: r') = _
      unfold stmtT
      simp only
      rw [if_pos (by omega)]
  | size n =>
    obtain ⟨t1, T, rfl, e1, hT⟩ := keys_cons hT
    obtain ⟨t2, T, rfl, e2, hT⟩ := keys_cons hT
    obtain rfl := keys_nil hT
    obtain ⟨a1, a2⟩ := key_N e1
    obtain ⟨b1, b2⟩ := key_I e2
    refine ⟨[⟨3, t2.at_, n, [], ins0, tok0⟩], rfl, ?_⟩
    show stmtT (t1 :: t2 :: r) = _
    rw [stmtT_name a1, a2, size_op, if_neg (by omega), if_pos rfl]
    rw [numT_kc, if_pos b1, b2]
  | bytes n ns =>
    obtain ⟨t1, T, rfl, e1, hT⟩ := keys_cons hT
    obtain ⟨t2, T, rfl, e2, hT⟩ := keys_cons hT
    obtain ⟨a1, a2⟩ := key_N e1
    obtain ⟨b1, b2⟩ := key_I e2
    have hlen : T.length = 2 * ns.length := by
      have := congrArg List.length hT
      rw [List.length_map, byteKeys_len] at this
      exact this
    obtain ⟨ps, p1, p2⟩ := byteF_keys ns (t2 :: (T ++ r)).length T r (by simp; omega) hT hr
    have hn : numT 4 (t2 :: (T ++ r)) = (true, T ++ r, [⟨4, t2.at_, n, [], ins0, tok0⟩]) := by rw [numT_kc, if_pos b1, b2]
    refine ⟨⟨4, t2.at_, n, [], ins0, tok0⟩ :: ps, ?_, ?_⟩
    · rw [List.map_cons, p1]; rfl
    · show stmtT (t1 :: t2 :: (T ++ r)) = _
      rw [stmtT_name a1, a2, byte_op, if_neg (by omega), if_neg (by decide), if_pos rfl]
      unfold bytesT
      rw [hn, p2]
      rfl
  | ins i t =>
    obtain ⟨t1, T, rfl, e1, hT⟩ := keys_cons hT
    obtain ⟨a1, a2⟩ := key_N e1
    obtain ⟨g, g1, g2⟩ := ins_fields ho hT r t1.at_
    have hop := (right_range ho.right).1
    refine ⟨[⟨2, t1.at_, 0, [], i, g⟩], ?_, ?_⟩
    · rw [List.map_cons, List.map_nil]; unfold partK stmParts; rw [g1]
    · show stmtT (t1 :: (T ++ r)) = _
      rw [stmtT_name a1, a2, nameN_op hop, if_pos (by omega)]
      unfold insT
      rw [g2, if_pos rfl]
theorem labelT_no {R : List Tok} (h : ∀ n c ts, R = n :: c :: ts → ¬ (n.kind = 1 ∧ isS c [58] = true)) : labelT R = none := by
  rcases R with _ | ⟨n, _ | ⟨c, ts⟩⟩
  · rfl
  · rfl
  · rw [labelT_kc, if_neg (h n c ts rfl)]
theorem isS_no {c : Tok} (h : c.kind ≠ 3 ∨ c.text ≠ [58]) : ¬ isS c [58] = true := by
  unfold isS
  rw [decide_eq_true_eq]
  intro ⟨h1, h2⟩
  rcases h with h | h
  · exact h h1
  · exact h h2
theorem stm_nolab {s : Stm} {T r : List Tok} (hT : T.map keyK = stmKeys s) (hr : Behind r) : labelT (T ++ r) = none := by
  apply labelT_no
  intro n c ts he hh
  obtain ⟨h1, h2⟩ := hh
  have hrk : ∀ e r', r = e :: r' → ¬ isS e [58] = true := fun e r' h => isS_no (.inl (by have := hr e r' h; omega))
  cases s with
  | none =>
    obtain rfl := keys_nil hT
    have := hr n (c :: ts) he
    omega
  | size m =>
    obtain ⟨t1, T, rfl, e1, hT⟩ := keys_cons hT
    obtain ⟨t2, T, rfl, e2, hT⟩ := keys_cons hT
    injection he with _ he
    injection he with he _
    subst he
    exact isS_no (.inl (by have := (key_I e2).1; omega)) h2
  | bytes m ns =>
    obtain ⟨t1, T, rfl, e1, hT⟩ := keys_cons hT
    obtain ⟨t2, T, rfl, e2, hT⟩ := keys_cons hT
    injection he with _ he
    injection he with he _
    subst he
    exact isS_no (.inl (by have := (key_I e2).1; omega)) h2
  | ins i t =>
    obtain ⟨t1, T, rfl, e1, hT⟩ := keys_cons hT
    injection he with _ he
    have hk : ∀ (k : Key) (ks : List Key), insKeys i t = k :: ks → k.kind ≠ 3 := by
      intro k ks hh
      unfold insKeys tgtK at hh
      repeat' split at hh
      all_goals first
        | (cases hh; done)
        | (injection hh with hh _; subst hh; simp)
    cases hI : insKeys i t with
    | nil =>
      rw [hI] at hT
      obtain rfl := keys_nil hT
      exact hrk c ts he h2
    | cons k ks =>
      rw [hI] at hT
      obtain ⟨t2, T, rfl, e2, hT⟩ := keys_cons hT
      injection he with he _
      subst he
      have := hk k ks hI
      rw [← e2] at this
      exact isS_no (.inl this) h2
theorem labelsF_keys : ∀ (labs : List (List UInt8)) (f : Nat) (T R : List Tok), labs.length ≤ f → T.map keyK = labKeys labs → labelT R = none →
    ∃ ps, ps.map partK = labParts labs ∧ labelsF f (T ++ R) = (R, ps)
  | [], f, T, R, hf, hT, hR => by
    obtain rfl := keys_nil hT
    refine ⟨[], rfl, ?_⟩
    cases f with
    | zero => rfl
    | succ f => unfold labelsF; rw [List.nil_append, hR]
  | t :: labs, f, T, R, hf, hT, hR => by
    have e : labKeys (t :: labs) = kN t :: kS 58 :: labKeys labs := by simp [labKeys]
    rw [e] at hT
    obtain ⟨t1, T, rfl, e1, hT⟩ := keys_cons hT
    obtain ⟨t2, T, rfl, e2, hT⟩ := keys_cons hT
    obtain ⟨f, rfl⟩ : ∃ g, f = g + 1 := ⟨f - 1, by simp at hf; omega⟩
    obtain ⟨ps, p1, p2⟩ := labelsF_keys labs f T R (by simpa using hf) hT hR
    obtain ⟨a1, a2⟩ := key_N e1
    have hl : labelT (t1 :: t2 :: (T ++ R)) = some (⟨1, t1.at_, 0, t1.text, ins0, tok0⟩, T ++ R) := by
      rw [labelT_kc, if_pos ⟨a1, isS_of e2⟩]
    refine ⟨⟨1, t1.at_, 0, t1.text, ins0, tok0⟩ :: ps, ?_, ?_⟩
    · rw [List.map_cons, p1, a2]; rfl
    · rw [List.cons_append, List.cons_append]
      unfold labelsF
      rw [hl]
      simp only
      rw [p2]
theorem line_keys {L : Ln} (ho : LnOk L) {T r : List Tok} (hT : T.map keyK = lnKeys L) (hr : Behind r) : ∃ ps, ps.map partK = lnParts L ∧ lineT (T ++ r) = (true, r.tail, ps) := by
  obtain ⟨A, B, rfl, hA, hB⟩ := keys_append hT
  have hl : A.length = 2 * L.labs.length := by
    have := congrArg List.length hA
    rw [List.length_map, labKeys_len] at this
    exact this
  obtain ⟨ps, p1, p2⟩ := labelsF_keys L.labs (A ++ B ++ r).length A (B ++ r) (by simp; omega) hA (stm_nolab hB hr)
  obtain ⟨qs, q1, q2⟩ := stmt_keys ho.1 hB hr
  rw [← List.append_assoc] at p2
  refine ⟨ps ++ qs, ?_, ?_⟩
  · rw [List.map_append, p1, q1]; rfl
  · unfold lineT
    rw [p2]
    simp only
    rw [q2, if_pos rfl, hr.end_]
def textKeys (z : List Key) : List Ln → List Key
  | [] => []
  | [L] => lnKeys L ++ z
  | L :: L2 :: Ls => lnKeys L ++ k4 :: textKeys z (L2 :: Ls)
theorem textF_keys {z : List Key} (hz : z = [] ∨ z = [k4]) : ∀ (Ls : List Ln) (f : Nat) (T : List Tok), (∀ L ∈ Ls, LnOk L) → T.length ≤ f → T.map keyK = textKeys z Ls →
    ∃ ps, ps.map partK = Ls.flatMap lnParts ∧ textF f T = (true, [], ps)
  | [], f, T, ho, hf, hT => by
    obtain rfl := keys_nil hT
    refine ⟨[], rfl, ?_⟩
    cases f with
    | zero => rfl
    | succ f => unfold textF; rw [if_pos rfl]
  | [L], f, T, ho, hf, hT => by
    obtain ⟨A, B, rfl, hA, hB⟩ := keys_append hT
    have hoL := ho L (by simp)
    have hr : Behind B := by
      intro e r' h
      subst h
      rcases hz with rfl | rfl
      · cases hB
      · rw [List.map_cons] at hB; injection hB with hB _; exact key_4 hB
    have hBt : B.tail = [] := by
      rcases hz with rfl | rfl
      · rw [keys_nil hB]; rfl
      · obtain ⟨t, T', rfl, _, h⟩ := keys_cons hB; rw [keys_nil h]; rfl
    have hA0 : A ≠ [] := by rintro rfl; exact hoL.2 hA.symm
    have hAl : 0 < A.length := List.length_pos_iff.2 hA0
    obtain ⟨ps, p1, p2⟩ := line_keys hoL hA hr
    obtain ⟨f, rfl⟩ : ∃ g, f = g + 1 := ⟨f - 1, by simp at hf; omega⟩
    refine ⟨ps, by simpa using p1, ?_⟩
    unfold textF
    rw [if_neg (by simp [hA0]), p2, if_pos rfl, hBt]
    cases f with
    | zero => simp [textF]
    | succ f => simp [textF]
  | L :: L2 :: Ls, f, T, ho, hf, hT => by
    obtain ⟨A, B, rfl, hA, hB⟩ := keys_append hT
    obtain ⟨t, B, rfl, e1, hB⟩ := keys_cons hB
    have hoL := ho L (by simp)
    have hr : Behind (t :: B) := by intro e r' h; injection h with h _; subst h; exact key_4 e1
    have hA0 : A ≠ [] := by rintro rfl; exact hoL.2 hA.symm
    obtain ⟨ps, p1, p2⟩ := line_keys hoL hA hr
    obtain ⟨f, rfl⟩ : ∃ g, f = g + 1 := ⟨f - 1, by simp at hf; omega⟩
    obtain ⟨qs, q1, q2⟩ := textF_keys hz (L2 :: Ls) f B (fun x hx => ho x (by simp [hx])) (by simp at hf; omega) hB
    refine ⟨ps ++ qs, ?_, ?_⟩
    · rw [List.map_append, p1, q1]; rfl
    · unfold textF
      rw [if_neg (by simp [hA0]), p2, if_pos rfl]
      simp only [List.tail_cons]
      rw [q2]
/-! ### what is laid -/
def hasK (name : List UInt8) (l : List PartK) : Bool := l.any (fun y => decide (y.kind = 1 ∧ y.name = name))
def placeK (name : List UInt8) : List PartK → Int → Option Int
  | [], _ => none
  | x :: xs, n => if x.kind = 1 ∧ x.name = name then some n else placeK name xs (if x.kind = 2 then n + 1 else n)
def aimK (all : List PartK) (x : PartK) (n : Nat) : Option Ins :=
  if x.target.kind = 1 then (match placeK x.target.text all 0 with | some k => some { x.ins with imm := k - n } | none => none) else some x.ins
def layK (all : List PartK) : List PartK → List PartK → Prog → Option Prog
  | _, [], p => some p
  | pre, x :: xs, p =>
    if x.kind = 1 then (if hasK x.name pre = true then none else layK all (pre ++ [x]) xs p)
    else if x.kind = 3 then layK all (pre ++ [x]) xs { p with size := x.num }
    else if x.kind = 4 then (if x.num < 0 ∨ 255 < x.num then none else layK all (pre ++ [x]) xs { p with data := p.data ++ [x.num] })
    else if x.kind = 2 then (match aimK all x p.code.length with
      | none => none
      | some i => if rightB i = true then layK all (pre ++ [x]) xs { p with code := p.code ++ [i] } else none)
    else layK all (pre ++ [x]) xs p
theorem hasL_K (name : List UInt8) (l : List PartZ) : hasK name (l.map partK) = hasL name l := by
  unfold hasK hasL
  rw [List.any_map]
  rfl
theorem placeF_K (name : List UInt8) : ∀ (l : List PartZ) (n : Int), placeK name (l.map partK) n = placeF name l n
  | [], n => rfl
  | x :: l, n => by
    rw [List.map_cons]
    unfold placeK placeF
    rw [placeF_K name l]
    rfl
theorem aimZ_K (all : List PartZ) (x : PartZ) (n : Nat) : aimK (all.map partK) (partK x) n = aimZ all x n := by
  unfold aimK aimZ
  rw [placeF_K]
  by_cases h : x.target.kind = 1
  · have h' : (partK x).target.kind = 1 := h
    have ht : (partK x).target.text = x.target.text := by show (if x.target.kind = 2 then _ else _) = _; rw [if_neg (by omega)]
    rw [if_pos h, if_pos h', ht]
    rfl
  · have h' : ¬ (partK x).target.kind = 1 := h
    rw [if_neg h, if_neg h']
    rfl
theorem layF_K (all : List PartZ) : ∀ (xs pre : List PartZ) (p q : Prog), layK (all.map partK) (pre.map partK) (xs.map partK) p = some q → layF all pre xs p = .ok q
  | [], pre, p, q, h => by
    rw [List.map_nil] at h
    unfold layK at h
    injection h with h
    subst h; rfl
  | x :: xs, pre, p, q, h => by
    rw [List.map_cons] at h
    unfold layK at h
    unfold layF
    have e : pre.map partK ++ [partK x] = (pre ++ [x]).map partK := by simp
    rw [hasL_K (partK x).name pre, aimZ_K, e] at h
    by_cases h1 : x.kind = 1
    · rw [if_pos (show (partK x).kind = 1 from h1)] at h
      rw [if_pos h1]
      split at h
      · cases h
      · rename_i hh
        rw [if_neg (by exact hh)]
        exact layF_K all xs _ _ _ h
    · rw [if_neg (show ¬ (partK x).kind = 1 from h1)] at h
      rw [if_neg h1]
      by_cases h3 : x.kind = 3
      · rw [if_pos (show (partK x).kind = 3 from h3)] at h
        rw [if_pos h3]
        exact layF_K all xs _ _ _ h
      · rw [if_neg (show ¬ (partK x).kind = 3 from h3)] at h
        rw [if_neg h3]
        by_cases h4 : x.kind = 4
        · rw [if_pos (show (partK x).kind = 4 from h4)] at h
          rw [if_pos h4]
          split at h
          · cases h
          · rename_i hh
            rw [if_neg (by exact hh)]
            exact layF_K all xs _ _ _ h
        · rw [if_neg (show ¬ (partK x).kind = 4 from h4)] at h
          rw [if_neg h4]
          by_cases h2 : x.kind = 2
          · rw [if_pos (show (partK x).kind = 2 from h2)] at h
            rw [if_pos h2]
            cases ha : aimZ all x p.code.length with
            | none => rw [ha] at h; cases h
            | some i =>
              rw [ha] at h
              simp only at h ⊢
              split at h
              · rename_i hr
                rw [if_pos hr]
                exact layF_K all xs _ _ _ h
              · cases h
          · rw [if_neg (show ¬ (partK x).kind = 2 from h2)] at h
            rw [if_neg h2]
            exact layF_K all xs _ _ _ h
end Go.Proofs.YtcaibahniheohaaDoor.Words

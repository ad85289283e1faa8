/- What the copying loop leaves: plain mathematics over stepZ. -/
import Derived.Test.YtdjllgdeijdieaaG12
namespace Go.Proofs.Ytdjllgdeijdieaa.Words
set_option maxRecDepth 100000
open Go.RowKit
set_option linter.unusedVariables false

/-- A word's bytes. -/
def quadZ (x : Int) : List Int := [x % 256, x / 256 % 256, x / 65536 % 256, x / 16777216]
/-- The bytes of words. -/
def quadsZ (l : List Int) : List Int := l.flatMap quadZ
theorem quadsZ_cons (x : Int) (l : List Int) : quadsZ (x :: l) = quadZ x ++ quadsZ l := by simp [quadsZ]
theorem quadsZ_append (l m : List Int) : quadsZ (l ++ m) = quadsZ l ++ quadsZ m := by simp [quadsZ]
theorem quadsZ_len (l : List Int) : (quadsZ l).length = 4 * l.length := by
  induction l with
  | nil => rfl
  | cons x l ih => rw [quadsZ_cons, List.length_append, ih]; simp [quadZ]; omega
theorem quadsZ_bytes {l : List Int} (h : ∀ x ∈ l, 0 ≤ x ∧ x ≤ 4294967295) : ∀ b ∈ quadsZ l, 0 ≤ b ∧ b ≤ 255 := by
  intro b hb
  unfold quadsZ at hb
  rw [List.mem_flatMap] at hb
  obtain ⟨x, hx, hb⟩ := hb
  have := h x hx
  simp only [quadZ, List.mem_cons, List.not_mem_nil, or_false] at hb
  rcases hb with rfl | rfl | rfl | rfl <;> omega
theorem getD_in (a b : List Int) (j : Nat) : (a ++ b).getD (a.length + j) 0 = b.getD j 0 := by
  rw [List.getD_eq_getElem?_getD, List.getD_eq_getElem?_getD, List.getElem?_append_right (by omega)]
  congr 2
  omega
theorem word_in (a b : List Int) (x : Int) (h : 0 ≤ x ∧ x ≤ 4294967295) : wordOf (a ++ (quadZ x ++ b)) a.length 4 = x := by
  unfold wordOf
  rw [if_neg (by decide), if_neg (by decide), if_pos rfl]
  have e0 := getD_in a (quadZ x ++ b) 0
  rw [Nat.add_zero] at e0
  rw [e0, getD_in, getD_in, getD_in]
  show x % 256 + 256 * (x / 256 % 256) + 65536 * (x / 65536 % 256) + 16777216 * (x / 16777216) = x
  omega
theorem set_in (a b : List Int) (j : Nat) (v : Int) : (a ++ b).set (a.length + j) v = a ++ b.set j v := by
  rw [List.set_append_right _ _ (by omega)]
  congr 2
  omega
theorem put_in (a b : List Int) (x : Int) (h : 0 ≤ x ∧ x ≤ 4294967295) (p q r s : Int) : put4 (a ++ (p :: q :: r :: s :: b)) a.length x = a ++ (quadZ x ++ b) := by
  unfold put4 put2 put1
  have e0 := set_in a (p :: q :: r :: s :: b) 0 (x % 256)
  rw [Nat.add_zero] at e0
  rw [e0, set_in, set_in, set_in]
  simp only [List.set_cons_zero, List.set_cons_succ, quadZ, List.cons_append, List.nil_append]
  rw [show x / 16777216 % 256 = x / 16777216 by omega]

/-- The loop's program. -/
def copyP (n : Int) (data : List Int) : Prog := ⟨[⟨26, 2, 1, 0, 0⟩, ⟨31, 0, 1, 2, n⟩, ⟨17, 1, 1, 0, 4⟩, ⟨21, 3, 1, 0, n⟩, ⟨35, 0, 3, 0, -4⟩, ⟨41, 0, 0, 0, 0⟩], 2 * n, data⟩
/-- A result on its way. -/
def copyS (a b c st : Int) (mem : List Int) (ws : List Wr) : Res := ⟨0, 0, 0, 0, st, [0, a, b, c, 0, 0, 0, 0, 0, 0, 0, 0, 0, 0, 0, 0], mem, ws⟩
theorem copyP_right {n : Int} {data : List Int} (hn : 4 ≤ n ∧ n ≤ 120) (hd : (data.length : Int) = n) : (copyP n data).right = true := by
  unfold Prog.right
  have h1 : (copyP n data).code.all rightB = true := by
    rw [List.all_eq_true]
    intro i hi
    simp only [copyP, List.mem_cons, List.not_mem_nil, or_false] at hi
    rcases hi with rfl | rfl | rfl | rfl | rfl | rfl
    · decide
    · rw [rightB_iff]; simp [lowI, highI]; omega
    · decide
    · rw [rightB_iff]; simp [lowI, highI]; omega
    · decide
    · decide
  have h2 : (copyP n data).targets = true := rfl
  rw [h1, h2]
  simp [copyP]
  omega
theorem copy_step {n a b c st : Int} {mem data : List Int} {ws : List Wr} (hn : 4 ≤ n ∧ n ≤ 120) (hd : (data.length : Int) = n) (hm : (mem.length : Int) = 2 * n) (k : Nat) (i : Ins) (hi : (copyP n data).code[k]? = some i) :
    stepZ (copyP n data) (copyS a b c st mem ws) (k : Int) = insZ (2 * n) (copyS a b c st mem ws) (k : Int) i :=
  stepZ_ins rfl (copyP_right hn hd) hm hi
theorem bump_copy {a b c st : Int} {mem : List Int} {ws : List Wr} (h : 0 ≤ st ∧ st ≤ 1000) : bumpZ (copyS a b c st mem ws) = copyS a b c (st + 1) mem ws := by
  unfold bumpZ
  rw [show (copyS a b c st mem ws).st = st from rfl, IntWalk.wrap64_in _ (by omega)]
  rfl
section
variable {n a b c st : Int} {mem data : List Int} {ws : List Wr}
theorem copy_0 (hn : 4 ≤ n ∧ n ≤ 120) (hd : (data.length : Int) = n) (hm : (mem.length : Int) = 2 * n) (h : 0 ≤ st ∧ st ≤ 1000) {k : Nat} (hk : 4 * (k : Int) + 4 ≤ n) {x : Int} (hx : wordOf mem (4 * k) 4 = x) :
    stepZ (copyP n data) (copyS (4 * k) b c st mem ws) 0 = (copyS (4 * k) x c (st + 1) mem ws, 1) := by
  have h1 := copy_step (a := 4 * k) (b := b) (c := c) (st := st) (ws := ws) hn hd hm 0 _ rfl
  rw [show ((0 : Nat) : Int) = 0 from rfl] at h1
  rw [h1]
  have ha : (4 * (k : Int) + 0) % 4294967296 = 4 * k := by omega
  have hc : checkZ 4 (4 * (k : Int)) (2 * n) = 0 := checkZ_ok (by omega) (by omega)
  have hc' : checkZ (sizeZ 26) (4 * (k : Int)) mem.length = 0 := by rw [hm]; exact hc
  have hl : loadZ mem 26 (4 * (k : Int)) = x := by
    rw [loadZ_yes (by decide) (by decide) hc', show (4 * (k : Int)).toNat = 4 * k by omega]
    exact hx
  show (if checkZ 4 ((4 * (k : Int) + 0) % 4294967296) (2 * n) ≠ 0 then (trapZ (copyS (4 * k) b c st mem ws) (checkZ 4 ((4 * (k : Int) + 0) % 4294967296) (2 * n)) 0, (0 : Int)) else
    (bumpZ (copyS (4 * k) (loadZ mem 26 ((4 * (k : Int) + 0) % 4294967296)) c st mem ws), (0 : Int) + 1)) = _
  rw [ha, if_neg (by rw [hc]; decide), hl, bump_copy h]
  rfl
theorem copy_1 (hn : 4 ≤ n ∧ n ≤ 120) (hd : (data.length : Int) = n) (hm : (mem.length : Int) = 2 * n) (h : 0 ≤ st ∧ st ≤ 1000) {k : Nat} (hk : 4 * (k : Int) + 4 ≤ n) (hb : 0 ≤ b ∧ b ≤ 4294967295) (h4 : n % 4 = 0) :
    stepZ (copyP n data) (copyS (4 * k) b c st mem ws) 1 = (copyS (4 * k) b c (st + 1) (put4 mem (n + 4 * k).toNat b) (ws ++ [⟨n + 4 * k, 4, b⟩]), 2) := by
  have h1 := copy_step (a := 4 * k) (b := b) (c := c) (st := st) (ws := ws) hn hd hm 1 _ rfl
  rw [show ((1 : Nat) : Int) = 1 from rfl] at h1
  rw [h1]
  have ha : (4 * (k : Int) + n) % 4294967296 = n + 4 * k := by omega
  have hc : checkZ 4 (n + 4 * (k : Int)) (2 * n) = 0 := checkZ_ok (by omega) (by omega)
  have hs : storeZ mem 4 (n + 4 * k) b = put4 mem (n + 4 * k).toNat b := by
    unfold storeZ
    rw [if_pos (by unfold storeOk; rw [hm, hc]; simp; omega), if_neg (by decide), if_neg (by decide)]
  have hmk : maskZ b 4 = b := rfl
  show (if checkZ 4 ((4 * (k : Int) + n) % 4294967296) (2 * n) ≠ 0 then (trapZ (copyS (4 * k) b c st mem ws) (checkZ 4 ((4 * (k : Int) + n) % 4294967296) (2 * n)) 1, (1 : Int)) else
    (bumpZ (copyS (4 * k) b c st (storeZ mem 4 ((4 * (k : Int) + n) % 4294967296) (maskZ b 4)) (ws ++ [⟨(4 * (k : Int) + n) % 4294967296, 4, maskZ b 4⟩])), (1 : Int) + 1)) = _
  rw [ha, if_neg (by rw [hc]; decide), hmk, hs, bump_copy h]
  rfl
theorem copy_2 (hn : 4 ≤ n ∧ n ≤ 120) (hd : (data.length : Int) = n) (hm : (mem.length : Int) = 2 * n) (h : 0 ≤ st ∧ st ≤ 1000) {k : Nat} (hk : 4 * (k : Int) + 4 ≤ n) :
    stepZ (copyP n data) (copyS (4 * k) b c st mem ws) 2 = (copyS (4 * ((k + 1 : Nat) : Int)) b c (st + 1) mem ws, 3) := by
  have h1 := copy_step (a := 4 * k) (b := b) (c := c) (st := st) (ws := ws) hn hd hm 2 _ rfl
  rw [show ((2 : Nat) : Int) = 2 from rfl] at h1
  rw [h1]
  have h2 : doZ ⟨17, 1, 1, 0, 4⟩ (4 * (k : Int)) 0 = 4 * ((k + 1 : Nat) : Int) := by
    have hr : rightB ⟨17, 1, 1, 0, 4⟩ = true := by decide
    unfold doZ
    rw [if_pos hr]
    show (4 * (k : Int) + 4 % 4294967296) % 4294967296 = _
    omega
  have h3 : doB ⟨17, 1, 1, 0, 4⟩ 0 = true := rfl
  show (if doB ⟨17, 1, 1, 0, 4⟩ 0 = false then (trapZ (copyS (4 * k) b c st mem ws) 3 2, (2 : Int)) else (bumpZ (copyS (doZ ⟨17, 1, 1, 0, 4⟩ (4 * (k : Int)) 0) b c st mem ws), (2 : Int) + 1)) = _
  rw [h3, if_neg (by decide), h2, bump_copy h]
  rfl
theorem copy_3 (hn : 4 ≤ n ∧ n ≤ 120) (hd : (data.length : Int) = n) (hm : (mem.length : Int) = 2 * n) (h : 0 ≤ st ∧ st ≤ 1000) (ha : 0 ≤ a ∧ a ≤ 200) :
    stepZ (copyP n data) (copyS a b c st mem ws) 3 = (copyS a b (if a < n then 1 else 0) (st + 1) mem ws, 4) := by
  have h1 := copy_step (a := a) (b := b) (c := c) (st := st) (ws := ws) hn hd hm 3 _ rfl
  rw [show ((3 : Nat) : Int) = 3 from rfl] at h1
  rw [h1]
  have h2 : doZ ⟨21, 3, 1, 0, n⟩ a 0 = if a < n then 1 else 0 := by
    have hr : rightB ⟨21, 3, 1, 0, n⟩ = true := by rw [rightB_iff]; simp [lowI, highI]; omega
    unfold doZ
    rw [if_pos hr]
    show (if sgn a < sgn (n % 4294967296) then (1 : Int) else 0) = _
    have e1 : sgn a = a := by unfold sgn; rw [if_pos (by omega)]
    have e2 : sgn (n % 4294967296) = n := by rw [show n % 4294967296 = n by omega]; unfold sgn; rw [if_pos (by omega)]
    rw [e1, e2]
  have h3 : doB ⟨21, 3, 1, 0, n⟩ 0 = true := by unfold doB; rw [if_neg (by simp [formZ])]
  show (if doB ⟨21, 3, 1, 0, n⟩ 0 = false then (trapZ (copyS a b c st mem ws) 3 3, (3 : Int)) else (bumpZ (copyS a b (doZ ⟨21, 3, 1, 0, n⟩ a 0) st mem ws), (3 : Int) + 1)) = _
  rw [h3, if_neg (by decide), h2, bump_copy h]
  rfl
theorem copy_4 (hn : 4 ≤ n ∧ n ≤ 120) (hd : (data.length : Int) = n) (hm : (mem.length : Int) = 2 * n) (h : 0 ≤ st ∧ st ≤ 1000) :
    stepZ (copyP n data) (copyS a b c st mem ws) 4 = (copyS a b c (st + 1) mem ws, if c = 0 then 5 else 0) := by
  have h1 := copy_step (a := a) (b := b) (c := c) (st := st) (ws := ws) hn hd hm 4 _ rfl
  rw [show ((4 : Nat) : Int) = 4 from rfl] at h1
  rw [h1]
  show (bumpZ (copyS a b c st mem ws), if takenB 35 c 0 = true then (4 : Int) + -4 else 4 + 1) = _
  have ht : takenB 35 c 0 = decide (c ≠ 0) := rfl
  rw [ht, bump_copy h]
  by_cases hc : c = 0
  · subst hc; rfl
  · rw [if_pos (by simp [hc]), if_neg hc]; rfl
theorem copy_5 (hn : 4 ≤ n ∧ n ≤ 120) (hd : (data.length : Int) = n) (hm : (mem.length : Int) = 2 * n) (h : 0 ≤ st ∧ st ≤ 1000) :
    stepZ (copyP n data) (copyS a b c st mem ws) 5 = ({ copyS a b c (st + 1) mem ws with e := 1 }, 5) := by
  have h1 := copy_step (a := a) (b := b) (c := c) (st := st) (ws := ws) hn hd hm 5 _ rfl
  rw [show ((5 : Nat) : Int) = 5 from rfl] at h1
  rw [h1]
  show (bumpZ { copyS a b c st mem ws with e := 1 }, (5 : Int)) = _
  unfold bumpZ
  rw [show ({ copyS a b c st mem ws with e := 1 } : Res).st = st from rfl, IntWalk.wrap64_in _ (by omega)]
  rfl
end
/-- Memory behind so many turns. -/
def copyM (l : List Int) (k : Nat) : List Int := quadsZ l ++ (quadsZ (l.take k) ++ List.replicate (4 * (l.length - k)) 0)
/-- The writes of so many turns. -/
def copyW (l : List Int) (k : Nat) : List Wr := (List.range k).map fun (i : Nat) => (⟨4 * (l.length : Int) + 4 * (i : Int), 4, l.getD i 0⟩ : Wr)
theorem copyM_len (l : List Int) (k : Nat) (h : k ≤ l.length) : ((copyM l k).length : Int) = 2 * (4 * (l.length : Int)) := by
  unfold copyM
  rw [List.length_append, List.length_append, quadsZ_len, quadsZ_len, List.length_take, List.length_replicate]
  omega
theorem copyM_load {l : List Int} {k : Nat} {x : Int} (h : l[k]? = some x) (hx : 0 ≤ x ∧ x ≤ 4294967295) : wordOf (copyM l k) (4 * k) 4 = x := by
  obtain ⟨hk, rfl⟩ := List.getElem?_eq_some_iff.1 h
  have e : quadsZ l = quadsZ (l.take k) ++ (quadZ l[k] ++ quadsZ (l.drop (k + 1))) := by
    conv => lhs; rw [← List.take_append_drop k l, List.drop_eq_getElem_cons hk, quadsZ_append, quadsZ_cons]
  have hl : (quadsZ (l.take k)).length = 4 * k := by rw [quadsZ_len, List.length_take]; omega
  unfold copyM
  rw [e, List.append_assoc, List.append_assoc, ← hl]
  exact word_in _ _ _ hx
theorem copyM_store {l : List Int} {k : Nat} {x : Int} (h : l[k]? = some x) (hx : 0 ≤ x ∧ x ≤ 4294967295) : put4 (copyM l k) (4 * (l.length : Int) + 4 * k).toNat x = copyM l (k + 1) := by
  obtain ⟨hk, rfl⟩ := List.getElem?_eq_some_iff.1 h
  have hl : (quadsZ l ++ quadsZ (l.take k)).length = (4 * (l.length : Int) + 4 * k).toNat := by rw [List.length_append, quadsZ_len, quadsZ_len, List.length_take]; omega
  have er : List.replicate (4 * (l.length - k)) (0 : Int) = 0 :: 0 :: 0 :: 0 :: List.replicate (4 * (l.length - (k + 1))) 0 := by
    rw [show 4 * (l.length - k) = 4 * (l.length - (k + 1)) + 1 + 1 + 1 + 1 by omega]; rfl
  unfold copyM
  rw [er, ← List.append_assoc, ← hl, put_in _ _ _ hx, List.take_succ_eq_append_getElem hk, quadsZ_append, List.append_assoc, List.append_assoc]
  simp [quadsZ]
theorem copyW_succ {l : List Int} {k : Nat} {x : Int} (h : l[k]? = some x) : copyW l (k + 1) = copyW l k ++ [⟨4 * (l.length : Int) + 4 * k, 4, x⟩] := by
  unfold copyW
  rw [List.range_succ, List.map_append]
  simp [List.getD_eq_getElem?_getD, h]
/-- Turns of the loop. -/
theorem copy_turns {l : List Int} (h1 : 1 ≤ l.length) (h30 : l.length ≤ 30) (hx : ∀ x ∈ l, 0 ≤ x ∧ x ≤ 4294967295) : ∀ k : Nat, k ≤ l.length → ∃ b c : Int,
    stepsZ (copyP (4 * (l.length : Int)) (quadsZ l)) (5 * k) (copyS 0 0 0 0 (copyM l 0) [], 0) = (copyS (4 * k) b c (5 * k) (copyM l k) (copyW l k), if k = l.length then 5 else 0) := by
  intro k
  have hn : 4 ≤ 4 * (l.length : Int) ∧ 4 * (l.length : Int) ≤ 120 := by omega
  have hd : ((quadsZ l).length : Int) = 4 * (l.length : Int) := by rw [quadsZ_len]; omega
  induction k with
  | zero =>
    intro _
    exact ⟨0, 0, by rw [if_neg (by omega)]; rfl⟩
  | succ k ih =>
    intro hk
    obtain ⟨b, c, e⟩ := ih (by omega)
    rw [if_neg (by omega)] at e
    obtain ⟨x, hxk⟩ : ∃ x, l[k]? = some x := ⟨_, List.getElem?_eq_getElem (by omega)⟩
    have hxx := hx x (List.mem_of_getElem? hxk)
    have hm0 := copyM_len l k (by omega)
    have hm1 := copyM_len l (k + 1) hk
    have s0 := copy_0 (b := b) (c := c) (st := 5 * k) (ws := copyW l k) hn hd hm0 (by omega) (k := k) (by omega) (copyM_load hxk hxx)
    have s1 := copy_1 (b := x) (c := c) (st := 5 * k + 1) (ws := copyW l k) hn hd hm0 (by omega) (k := k) (by omega) hxx (by omega)
    rw [copyM_store hxk hxx, ← copyW_succ hxk] at s1
    have s2 := copy_2 (b := x) (c := c) (st := 5 * k + 1 + 1) (ws := copyW l (k + 1)) hn hd hm1 (by omega) (k := k) (by omega)
    have s3 := copy_3 (a := 4 * ((k + 1 : Nat) : Int)) (b := x) (c := c) (st := 5 * k + 1 + 1 + 1) (ws := copyW l (k + 1)) hn hd hm1 (by omega) (by omega)
    have s4 := copy_4 (a := 4 * ((k + 1 : Nat) : Int)) (b := x) (c := if 4 * ((k + 1 : Nat) : Int) < 4 * (l.length : Int) then 1 else 0) (st := 5 * k + 1 + 1 + 1 + 1) (ws := copyW l (k + 1)) hn hd hm1 (by omega)
    refine ⟨x, if 4 * ((k + 1 : Nat) : Int) < 4 * (l.length : Int) then 1 else 0, ?_⟩
    rw [show 5 * (k + 1) = 5 * k + 1 + 1 + 1 + 1 + 1 by omega]
    rw [stepsZ_succ, stepsZ_succ, stepsZ_succ, stepsZ_succ, stepsZ_succ, e]
    simp only
    rw [s0]
    simp only
    rw [s1]
    simp only
    rw [s2]
    simp only
    rw [s3]
    simp only
    rw [s4]
    refine Prod.ext ?_ ?_
    · simp only
      rw [show (5 * (k : Int) + 1 + 1 + 1 + 1 + 1) = 5 * ((k + 1 : Nat) : Int) by omega]
    · simp only
      by_cases hq : k + 1 = l.length
      · rw [if_neg (show ¬ 4 * ((k + 1 : Nat) : Int) < 4 * (l.length : Int) by omega), if_pos rfl, if_pos hq]
      · rw [if_pos (show 4 * ((k + 1 : Nat) : Int) < 4 * (l.length : Int) by omega), if_neg (by decide), if_neg hq]
/-- What the run leaves. -/
theorem copy_run {l : List Int} (h1 : 1 ≤ l.length) (h30 : l.length ≤ 30) (hx : ∀ x ∈ l, 0 ≤ x ∧ x ≤ 4294967295) :
    (runZ (copyP (4 * (l.length : Int)) (quadsZ l)) 1000).e = 1 ∧ (runZ (copyP (4 * (l.length : Int)) (quadsZ l)) 1000).mem = quadsZ l ++ quadsZ l ∧ (runZ (copyP (4 * (l.length : Int)) (quadsZ l)) 1000).ws = copyW l l.length := by
  have hn : 4 ≤ 4 * (l.length : Int) ∧ 4 * (l.length : Int) ≤ 120 := by omega
  have hd : ((quadsZ l).length : Int) = 4 * (l.length : Int) := by rw [quadsZ_len]; omega
  obtain ⟨b, c, e⟩ := copy_turns h1 h30 hx l.length (Nat.le_refl _)
  rw [if_pos rfl] at e
  have hs : startZ (copyP (4 * (l.length : Int)) (quadsZ l)) = (copyS 0 0 0 0 (copyM l 0) [], 0) := by
    have hf : firstZ (copyP (4 * (l.length : Int)) (quadsZ l)) = copyM l 0 := by
      unfold firstZ copyM
      show quadsZ l ++ List.replicate ((2 * (4 * (l.length : Int))).toNat - (quadsZ l).length) 0 = _
      rw [quadsZ_len, show (2 * (4 * (l.length : Int))).toNat - 4 * l.length = 4 * (l.length - 0) by omega]
      rfl
    unfold startZ
    rw [hf]
    rfl
  have s5 := copy_5 (a := 4 * (l.length : Int)) (b := b) (c := c) (st := 5 * (l.length : Int)) (mem := copyM l l.length) (ws := copyW l l.length) hn hd (copyM_len l _ (Nat.le_refl _)) (by omega)
  have hr : stepsZ (copyP (4 * (l.length : Int)) (quadsZ l)) (5 * l.length + 1) (startZ (copyP (4 * (l.length : Int)) (quadsZ l))) = ({ copyS (4 * (l.length : Int)) b c (5 * (l.length : Int) + 1) (copyM l l.length) (copyW l l.length) with e := 1 }, 5) := by
    rw [hs, stepsZ_succ, e]
    exact s5
  have hmm : copyM l l.length = quadsZ l ++ quadsZ l := by unfold copyM; simp
  rw [runZ_at (n := 1000) (k := 5 * l.length + 1) (copyP_right hn hd) rfl (by omega) (.inr (by rw [hr]; exact (by decide : (1 : Int) ≠ 0))), hr]
  unfold fuelZ
  rw [if_neg (by exact (by decide : ¬ (1 : Int) = 0))]
  exact ⟨rfl, hmm, rfl⟩
end Go.Proofs.Ytdjllgdeijdieaa.Words

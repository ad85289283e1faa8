/- Places that are filled in any order, and stores that wait: what chapters 16 and 17 ask, as plain mathematics over lists. -/
import Derived.Test.YtjkijjbakocilaaStaData
import Derived.Test.YtjkijjbakocilaaBytesMath
import Derived.Test.YtjkijjbakocilaaRefMask
namespace Go.Proofs.Ytjkijjbakocilaa.Words
set_option maxRecDepth 100000
open Go.RowKit
set_option linter.unusedVariables false
set_option linter.unusedSimpArgs false

def roomZ (l : List Slt) (n : Int) : Bool := decide ((l.length : Int) < n)
def reserveZ (l : List Slt) (n tag : Int) : List Slt := if (l.length : Int) < n then l ++ [⟨tag, false, 0⟩] else l
def waits (tag : Int) (x : Slt) : Bool := decide (x.tag = tag) && !x.full
def fillZ (tag w : Int) : List Slt → List Slt
  | [] => []
  | x :: r => if waits tag x = true then ⟨x.tag, true, w⟩ :: r else x :: fillZ tag w r
def hasZ (tag : Int) (l : List Slt) : Bool := l.any (waits tag)
def canZ : List Slt → Bool
  | [] => false
  | x :: _ => x.full
def popZ : List Slt → List Slt
  | [] => []
  | x :: r => if x.full = true then r else x :: r
def popV : List Slt → Int
  | [] => 0
  | x :: _ => if x.full = true then x.val else 0
theorem reserve_yes {l : List Slt} {n : Int} (tag : Int) (h : (l.length : Int) < n) : reserveZ l n tag = l ++ [⟨tag, false, 0⟩] := if_pos h
theorem reserve_no {l : List Slt} {n : Int} (tag : Int) (h : ¬ (l.length : Int) < n) : reserveZ l n tag = l := if_neg h
theorem room_yes {l : List Slt} {n : Int} (h : (l.length : Int) < n) : roomZ l n = true := decide_eq_true h
theorem room_no {l : List Slt} {n : Int} (h : ¬ (l.length : Int) < n) : roomZ l n = false := decide_eq_false h
theorem fill_len (tag w : Int) (l : List Slt) : (fillZ tag w l).length = l.length := by
  induction l with
  | nil => rfl
  | cons x r ih =>
    unfold fillZ
    split
    · rfl
    · simp [ih]
/-- The first j are passed by. -/
theorem fill_pass {tag w : Int} : ∀ {l : List Slt} {j : Nat}, (∀ k x, k < j → l[k]? = some x → waits tag x = false) → fillZ tag w l = l.take j ++ fillZ tag w (l.drop j) ∧ hasZ tag l = hasZ tag (l.drop j)
  | l, 0, _ => by simp
  | [], j + 1, _ => by simp [fillZ, hasZ]
  | x :: r, j + 1, h => by
    have h0 : waits tag x = false := h 0 x (by omega) rfl
    have ih := fill_pass (tag := tag) (w := w) (l := r) (j := j) (fun k y hk hy => h (k + 1) y (by omega) hy)
    constructor
    · rw [fillZ, if_neg (by simp [h0]), ih.1]; rfl
    · show (waits tag x || hasZ tag r) = _
      rw [h0, ih.2]; rfl
theorem fill_at {tag w : Int} {l : List Slt} {j : Nat} {x : Slt} (h : ∀ k x, k < j → l[k]? = some x → waits tag x = false) (hx : l[j]? = some x) (hw : waits tag x = true) :
    fillZ tag w l = l.set j ⟨x.tag, true, w⟩ ∧ hasZ tag l = true := by
  obtain ⟨h1, h2⟩ := fill_pass (w := w) h
  have hl := (List.getElem?_eq_some_iff.1 hx).1
  have hd : l.drop j = x :: l.drop (j + 1) := by rw [List.drop_eq_getElem_cons hl, (List.getElem?_eq_some_iff.1 hx).2]
  rw [h1, h2, hd]
  constructor
  · rw [fillZ, if_pos hw, List.set_eq_take_append_cons_drop, if_pos hl]
  · show (waits tag x || _) = true
    rw [hw]; rfl
theorem fill_none {tag w : Int} {l : List Slt} (h : ∀ k x, k < l.length → l[k]? = some x → waits tag x = false) : fillZ tag w l = l ∧ hasZ tag l = false := by
  obtain ⟨h1, h2⟩ := fill_pass (w := w) (j := l.length) h
  rw [h1, h2, List.drop_length, List.take_length]
  exact ⟨by simp [fillZ], rfl⟩
theorem pass_step {tag : Int} {l : List Slt} {j : Nat} {x : Slt} (h : ∀ k x, k < j → l[k]? = some x → waits tag x = false) (hx : l[j]? = some x) (hw : waits tag x = false) : ∀ k x, k < j + 1 → l[k]? = some x → waits tag x = false := by
  intro k y hk hy
  by_cases e : k = j
  · subst e; rw [hx] at hy; injection hy with hy; rw [← hy]; exact hw
  · exact h k y (by omega) hy

/- Stores that wait. -/
def pushE (l : List Ent) (n : Int) (e : Ent) : List Ent := if (l.length : Int) < n then l ++ [e] else l
def roomE (l : List Ent) (n : Int) : Bool := decide ((l.length : Int) < n)
def noE : Ent := ⟨0, 0, 0, false, 0⟩
def meetsE (addr size : Int) (e : Ent) : Bool := overlapB e.addr e.size addr size
def searchL (addr size : Int) (l : List Ent) : Ent := ((l.filter (meetsE addr size)).getLast?).getD noE
def thereE (addr size : Int) (l : List Ent) : Bool := l.any (meetsE addr size)
def bypB (e : Ent) (op addr : Int) : Bool := decide (formZ op = 4) && e.known && decide (e.addr = addr) && decide (e.size = sizeZ op)
def bypV (e : Ent) (op addr : Int) : Int := if bypB e op addr = true then extendZ op e.val else 0
theorem search_at {addr size : Int} {l : List Ent} {j : Nat} {x : Ent} (h : ∀ k x, j < k → l[k]? = some x → meetsE addr size x = false) (hx : l[j]? = some x) (hm : meetsE addr size x = true) : searchL addr size l = x ∧ thereE addr size l = true := by
  have hl := (List.getElem?_eq_some_iff.1 hx).1
  have hs : l = l.take j ++ x :: l.drop (j + 1) := by
    have hd : l.drop j = x :: l.drop (j + 1) := by rw [List.drop_eq_getElem_cons hl, (List.getElem?_eq_some_iff.1 hx).2]
    rw [← hd, List.take_append_drop]
  have hf : (l.drop (j + 1)).filter (meetsE addr size) = [] := by
    rw [List.filter_eq_nil_iff]
    intro y hy
    obtain ⟨k, hk⟩ := List.getElem?_of_mem hy
    rw [List.getElem?_drop] at hk
    rw [h _ y (by omega) hk]; simp
  constructor
  · unfold searchL
    rw [hs, List.filter_append, List.filter_cons, if_pos hm, hf]
    simp
  · unfold thereE
    rw [List.any_eq_true]
    exact ⟨x, List.mem_of_getElem? hx, hm⟩
theorem search_none {addr size : Int} {l : List Ent} (h : ∀ (k : Nat) x, l[k]? = some x → meetsE addr size x = false) : searchL addr size l = noE ∧ thereE addr size l = false := by
  have hf : l.filter (meetsE addr size) = [] := by
    rw [List.filter_eq_nil_iff]
    intro y hy
    obtain ⟨k, hk⟩ := List.getElem?_of_mem hy
    rw [h k y hk]; simp
  constructor
  · unfold searchL; rw [hf]; rfl
  · unfold thereE
    rw [List.any_eq_false]
    intro y hy
    obtain ⟨k, hk⟩ := List.getElem?_of_mem hy
    rw [h k y hk]; simp
end Go.Proofs.Ytjkijjbakocilaa.Words

/- Package ring's queue: what its cells are, and what a push, a pop turn of them. No walk. -/
import Derived.Test.YtbocpjbfnkoobaaKeepS
namespace Go.Proofs.Ytbocpjbfnkoobaa.Words
set_option maxRecDepth 100000
open Go.RowKit
set_option linter.unusedVariables false
set_option linter.unusedSimpArgs false

def slotW (x : Int) : Value := .iface 30 (.int .u32 x)
def slotQ (q : List Int) (i : Nat) : Value := match q[i]? with | some x => slotW x | none => .nilIface
def noneV (v : Value) : Bool := match v with | .nilIface => true | _ => false
def nilN (m : Nat) (S : List Value) : Nat := (S.take m).countP noneV
/-- Of 64 slots the first m are used, from f on round and round: there stands q. -/
structure RgM (m f : Nat) (q : List Int) (S : List Value) : Prop where
  len : S.length = 64
  m1 : 1 ≤ m
  m2 : m ≤ 64
  ff : f < m
  ql : q.length ≤ m
  at_ : ∀ i : Nat, i < m → S[(f + i) % m]? = some (slotQ q i)
  sort : ∀ (k : Nat) (v : Value), S[k]? = some v → v = .nilIface ∨ ∃ x, v = slotW x
  free : nilN m S + q.length = m

theorem modc {m f i : Nat} (hf : f < m) (hi : i < m) : (f + i) % m = if f + i < m then f + i else f + i - m := by
  split
  · rename_i h; exact Nat.mod_eq_of_lt h
  · rename_i h
    rw [Nat.mod_eq_sub_mod (by omega), Nat.mod_eq_of_lt (by omega)]
theorem mod_inj {m f i j : Nat} (hf : f < m) (hi : i < m) (hj : j < m) (h : (f + i) % m = (f + j) % m) : i = j := by
  rw [modc hf hi, modc hf hj] at h
  split at h <;> split at h <;> omega
theorem slotQ_at {q : List Int} {i : Nat} {x : Int} (h : q[i]? = some x) : slotQ q i = slotW x := by unfold slotQ; rw [h]
theorem slotQ_out {q : List Int} {i : Nat} (h : q.length ≤ i) : slotQ q i = .nilIface := by unfold slotQ; rw [List.getElem?_eq_none h]
theorem slotQ_in {q : List Int} {i : Nat} (h : i < q.length) : slotQ q i = slotW (q.getD i 0) := by
  unfold slotQ; rw [List.getD_eq_getElem?_getD, List.getElem?_eq_getElem h]; rfl
theorem noneV_slot (x : Int) : noneV (slotW x) = false := rfl
theorem sort_set {S : List Value} {k : Nat} {u : Value} (hs : ∀ (k : Nat) (v : Value), S[k]? = some v → v = .nilIface ∨ ∃ x, v = slotW x) (hu : u = .nilIface ∨ ∃ x, u = slotW x) : ∀ (j : Nat) (v : Value), (S.set k u)[j]? = some v → v = .nilIface ∨ ∃ x, v = slotW x := by
  intro j v hv
  rw [List.getElem?_set] at hv
  split at hv
  · split at hv
    · injection hv with hv; rw [← hv]; exact hu
    · cases hv
  · exact hs j v hv
theorem nilN_le (m : Nat) (S : List Value) : nilN m S ≤ m := by
  unfold nilN
  have h1 := List.countP_le_length (p := noneV) (l := S.take m)
  rw [List.length_take] at h1; omega
theorem nilN_zero (S : List Value) : nilN 0 S = 0 := by simp [nilN]
theorem nilN_step {S : List Value} {k : Nat} {v : Value} (h : S[k]? = some v) : nilN (k + 1) S = nilN k S + (if noneV v = true then 1 else 0) := by
  unfold nilN
  rw [List.take_add_one, h, List.countP_append]
  simp [List.countP_cons]
theorem nilN_set {S : List Value} {m k : Nat} {u v : Value} (hk : k < m) (h : S[k]? = some v) : nilN m (S.set k u) + (if noneV v = true then 1 else 0) = nilN m S + (if noneV u = true then 1 else 0) := by
  unfold nilN
  have hl : k < S.length := (List.getElem?_eq_some_iff.1 h).1
  have hv : (S.take m)[k]'(by simp; omega) = v := by
    rw [List.getElem_take]; exact (List.getElem?_eq_some_iff.1 h).2
  rw [List.take_set, List.countP_set (by simp; omega), hv]
  have h1 : (if noneV v = true then 1 else 0) ≤ List.countP noneV (S.take m) := by
    split
    · rename_i hn
      have : 0 < List.countP noneV (S.take m) := List.countP_pos_iff.2 ⟨v, by rw [← hv]; exact List.getElem_mem _, hn⟩
      omega
    · omega
  omega

section
variable {m f : Nat} {q : List Int} {S : List Value}
/-- The slot of the next word. -/
def hindR (m f : Nat) (q : List Int) : Nat := (f + q.length) % m
theorem RgM.hind_lt (h : RgM m f q S) : hindR m f q < m := Nat.mod_lt _ (by have := h.m1; omega)
theorem RgM.hind_free (h : RgM m f q S) (hl : q.length < m) : S[hindR m f q]? = some .nilIface := by
  unfold hindR; rw [h.at_ _ hl, slotQ_out (Nat.le_refl _)]
theorem RgM.hind_full (h : RgM m f q S) (hl : ¬ q.length < m) : ∃ x, S[hindR m f q]? = some (slotW x) := by
  have h1 := h.ql
  have h2 := h.m1
  have h3 : q.length = m := by omega
  have h4 := h.at_ 0 (by omega)
  rw [Nat.add_zero, Nat.mod_eq_of_lt h.ff] at h4
  unfold hindR
  rw [h3, Nat.add_mod_right, Nat.mod_eq_of_lt h.ff, h4, slotQ_in (by omega)]
  exact ⟨_, rfl⟩
theorem RgM.first_none (h : RgM m f [] S) : S[f]? = some .nilIface := by
  have h4 := h.at_ 0 (by have := h.m1; omega)
  rw [Nat.add_zero, Nat.mod_eq_of_lt h.ff] at h4
  rw [h4]; rfl
theorem RgM.first_some {x : Int} (h : RgM m f (x :: q) S) : S[f]? = some (slotW x) := by
  have h4 := h.at_ 0 (by have := h.m1; omega)
  rw [Nat.add_zero, Nat.mod_eq_of_lt h.ff] at h4
  rw [h4]; rfl
theorem RgM.push (h : RgM m f q S) (hl : q.length < m) (x : Int) : RgM m f (q ++ [x]) (S.set (hindR m f q) (slotW x)) := by
  have hk := h.hind_lt
  have h2 := h.m2
  refine ⟨by rw [List.length_set]; exact h.len, h.m1, h.m2, h.ff, by simp; omega, fun i hi => ?_, sort_set h.sort (.inr ⟨x, rfl⟩), ?_⟩
  · by_cases e : i = q.length
    · subst e
      rw [show (f + q.length) % m = hindR m f q from rfl, List.getElem?_set_self (by rw [h.len]; omega), slotQ_at (x := x) (by simp)]
    · rw [List.getElem?_set_ne (show hindR m f q ≠ (f + i) % m from fun e2 => e (mod_inj h.ff hi hl e2.symm)), h.at_ i hi]
      congr 1
      unfold slotQ
      by_cases hi2 : i < q.length
      · rw [List.getElem?_append_left hi2]
      · rw [List.getElem?_eq_none (by omega), List.getElem?_eq_none (by simp; omega)]
  · have h5 := nilN_set (u := slotW x) hk (h.hind_free hl)
    have h6 := h.free
    simp [noneV, slotW] at h5 ⊢
    omega
theorem RgM.hind_push (h : RgM m f q S) (x : Int) : hindR m f (q ++ [x]) = (hindR m f q + 1) % m := by
  unfold hindR
  rw [Nat.mod_add_mod]; simp [Nat.add_assoc]
theorem RgM.pop {x : Int} (h : RgM m f (x :: q) S) : RgM m ((f + 1) % m) q (S.set f .nilIface) := by
  have h1 := h.m1
  have h2 := h.m2
  have h3 := h.ff
  have hq := h.ql
  simp only [List.length_cons] at hq
  refine ⟨by rw [List.length_set]; exact h.len, h.m1, h.m2, Nat.mod_lt _ (by omega), by omega, fun i hi => ?_, sort_set h.sort (.inl rfl), ?_⟩
  · rw [Nat.mod_add_mod, Nat.add_assoc, Nat.add_comm 1 i]
    by_cases e : i + 1 = m
    · rw [e, Nat.add_mod_right, Nat.mod_eq_of_lt h3, List.getElem?_set_self (by rw [h.len]; omega), slotQ_out (by omega)]
    · have h4 := h.at_ (i + 1) (by omega)
      rw [List.getElem?_set_ne (fun e2 => ?_), h4]
      · congr 1
      · rw [modc h3 (show i + 1 < m by omega)] at e2
        split at e2 <;> omega
  · have h5 := nilN_set (u := .nilIface) h3 h.first_some
    have h6 := h.free
    simp [noneV, slotW] at h5 h6 ⊢
    omega
theorem RgM.hind_pop {x : Int} (h : RgM m f (x :: q) S) : hindR m ((f + 1) % m) q = hindR m f (x :: q) := by
  unfold hindR
  rw [Nat.mod_add_mod]; congr 1; simp; omega
theorem RgM.room (h : RgM m f q S) : nilN m S = m - q.length := by have := h.free; omega
theorem RgM.slot (h : RgM m f q S) {k : Nat} (hk : k < 64) : S[k]? = some .nilIface ∨ ∃ x, S[k]? = some (slotW x) := by
  have h1 : S[k]? = some (S[k]'(by rw [h.len]; exact hk)) := List.getElem?_eq_getElem _
  rcases h.sort k _ h1 with e | ⟨x, e⟩
  · exact .inl (by rw [h1, e])
  · exact .inr ⟨x, by rw [h1, e]⟩
end
theorem RgM.new (m : Nat) (h1 : 1 ≤ m) (h2 : m ≤ 64) : RgM m 0 [] (List.replicate 64 .nilIface) := by
  refine ⟨by simp, h1, h2, by omega, by simp, fun i hi => ?_, fun k v hv => ?_, ?_⟩
  · rw [Nat.zero_add, Nat.mod_eq_of_lt hi, List.getElem?_replicate, if_pos (by omega)]; rfl
  · rw [List.getElem?_replicate] at hv
    split at hv
    · injection hv with hv; exact .inl hv.symm
    · cases hv
  · unfold nilN
    rw [List.take_replicate, List.countP_replicate]
    simp [noneV]; omega

/-- The sixty-seven cells. -/
def ringL (m f : Nat) (q : List Int) (S : List Value) : List Value := S ++ [.int .i64 m, .int .i64 f, .int .i64 (hindR m f q)]
/-- Block b is a queue of at most m words, and holds q. -/
def Rg (w : World) (b m : Nat) (q : List Int) : Prop := ∃ f S, RgM m f q S ∧ Box w b (ringL m f q S)
def pushQ (m : Nat) (q : List Int) (x : Int) : List Int := if q.length < m then q ++ [x] else q
def goesQ (m : Nat) (q : List Int) : Bool := decide (q.length < m)
def headQ : List Int → Int | [] => 0 | x :: _ => x
def anyQ : List Int → Bool | [] => false | _ :: _ => true
def capQ (n : Int) : Nat := if n < 1 then 1 else if 64 < n then 64 else n.toNat
theorem capQ_1 (n : Int) : 1 ≤ capQ n := by unfold capQ; split; omega; split <;> omega
theorem capQ_64 (n : Int) : capQ n ≤ 64 := by unfold capQ; split; omega; split <;> omega
theorem capQ_min (n : Int) : min (max n 1) 64 = (capQ n : Int) := by unfold capQ; split; omega; split <;> omega
section
variable {m f : Nat} {q : List Int} {S : List Value} {w w' : World} {b : Nat}
theorem ringL_slot (hl : S.length = 64) {k : Nat} {v : Value} (h : S[k]? = some v) : (ringL m f q S)[k]? = some v := by
  unfold ringL
  rw [List.getElem?_append_left (List.getElem?_eq_some_iff.1 h).1]; exact h
theorem ringL_end (hl : S.length = 64) (k : Nat) : (ringL m f q S)[64 + k]? = [.int .i64 m, .int .i64 f, .int .i64 (hindR m f q)][k]? := by
  unfold ringL
  rw [List.getElem?_append_right (by omega)]; congr 1; omega
theorem ringL_len (hl : S.length = 64) : (ringL m f q S).length = 67 := by simp [ringL, hl]
theorem ringL_set (hl : S.length = 64) {k : Nat} (hk : k < 64) (v : Value) : (ringL m f q S).set k v = (S.set k v) ++ [.int .i64 m, .int .i64 f, .int .i64 (hindR m f q)] := by
  unfold ringL; rw [List.set_append_left _ _ (by omega)]
theorem end_set2 {a b c : Value} (hl : S.length = 64) (d : Value) : (S ++ [a, b, c]).set 66 d = S ++ [a, b, d] := by rw [List.set_append_right _ _ (by omega), hl]; rfl
theorem end_set1 {a b c : Value} (hl : S.length = 64) (d : Value) : (S ++ [a, b, c]).set 65 d = S ++ [a, d, c] := by rw [List.set_append_right _ _ (by omega), hl]; rfl
theorem end_at {a b c : Value} (hl : S.length = 64) (k : Nat) : (S ++ [a, b, c])[64 + k]? = [a, b, c][k]? := by rw [List.getElem?_append_right (by omega)]; congr 1; omega
theorem Rg.lt (h : Rg w b m q) : b < w.heap.size := by obtain ⟨f, S, _, h⟩ := h; exact h.lt
theorem Rg.m1 (h : Rg w b m q) : 1 ≤ m := by obtain ⟨f, S, h, _⟩ := h; exact h.m1
theorem Rg.m2 (h : Rg w b m q) : m ≤ 64 := by obtain ⟨f, S, h, _⟩ := h; exact h.m2
theorem Rg.ql (h : Rg w b m q) : q.length ≤ m := by obtain ⟨f, S, h, _⟩ := h; exact h.ql
theorem Rg.keepS {T : Nat → Prop} (h : Rg w b m q) (hk : KeepS T w w') (hb : ¬ T b) : Rg w' b m q := by
  obtain ⟨f, S, h1, h2⟩ := h
  exact ⟨f, S, h1, h2.keepS hk hb⟩
theorem Rg.below {B : Nat} (h : Rg w b m q) (hk : Below B w w') (hb : b < B) : Rg w' b m q := by
  obtain ⟨f, S, h1, h2⟩ := h
  exact ⟨f, S, h1, h2.below hk hb⟩
end
end Go.Proofs.Ytbocpjbfnkoobaa.Words

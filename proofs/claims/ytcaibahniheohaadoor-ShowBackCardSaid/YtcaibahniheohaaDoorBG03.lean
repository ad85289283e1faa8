/- Several texts in one: LexAlive, LexNumMath, LexDec, Kept, RaData, RegNum, LinT. -/
import Derived.Test.YtcaibahniheohaaDoorBG02
import Derived.Deep.QuietTactic
import Derived.BigQuiet
import Derived.Test.YtcaibahniheohaaDoorBG00
import Derived.Lib.TrimAscii
import Derived.Test.YtcaibahniheohaaDoorBG01

/- The law's own helpers of chapter 7: num, alive. -/
namespace Go.Proofs.YtcaibahniheohaaDoor.Words
set_option maxRecDepth 100000
open Go.RowKit Go.Shelf Go.Lib
set_option linter.unusedVariables false
theorem quiet_mine7 {P : Program} {f : FuncId} {args : Array Value} {w : World} {n : Nat} {v : Value} (h : Calls P f args (w.drewN n) fun e w' => e = .returned v ∧ w.drewN n = w') :
  Calls P f args (w.drewN n) fun e w'' => e = .returned v ∧ ∃ m, w'' = w.drewN m := h.mono fun _ _ ⟨he, hm⟩ => ⟨he, n, hm.symm⟩
end Go.Proofs.YtcaibahniheohaaDoor.Words

/- Numbers as texts, and read again: plain mathematics over lexZ. -/
namespace Go.Proofs.YtcaibahniheohaaDoor.Words
set_option maxRecDepth 100000
set_option linter.unusedVariables false
open Go.Lib
def hexB (great : Bool) (d : Nat) : UInt8 := if d < 10 then UInt8.ofNat (48 + d) else if great then UInt8.ofNat (55 + d) else UInt8.ofNat (87 + d)
def digsB (b : Nat) (great : Bool) : Nat → Nat → List UInt8
 | 0, n => []
 | f + 1, n => if n < b then [hexB great n] else digsB b great f (n / b) ++ [hexB great (n % b)]
theorem digsB_more {b : Nat} (hb : 2 ≤ b) (g : Bool) : ∀ f n, n < f → digsB b g f n = digsB b g (n + 1) n
 | 0, n, h => by omega
 | f + 1, n, h => by
  unfold digsB
  split
  ·rfl
  ·rename_i hn
   have h1 : n / b < n := Nat.div_lt_self (by omega) (by omega)
   rw [digsB_more hb g f (n / b) (by omega), digsB_more hb g n (n / b) h1]
def digs (b : Nat) (g : Bool) (n : Nat) : List UInt8 := digsB b g (n + 1) n
theorem digs_lo {b n : Nat} (g : Bool) (h : n < b) : digs b g n = [hexB g n] := by unfold digs digsB; rw [if_pos h]
theorem digs_hi {b n : Nat} (hb : 2 ≤ b) (g : Bool) (h : b ≤ n) : digs b g n = digs b g (n / b) ++ [hexB g (n % b)] := by
 have h1 : n / b < n := Nat.div_lt_self (by omega) (by omega)
 unfold digs
 conv => lhs; unfold digsB
 rw [if_neg (by omega), digsB_more hb g n (n / b) h1]
theorem digs_ne {b : Nat} (hb : 2 ≤ b) (g : Bool) (n : Nat) : digs b g n ≠ [] := by
 by_cases h : n < b
 ·rw [digs_lo g h]; simp
 ·rw [digs_hi hb g (by omega)]; simp
structure IsDig (b : Nat) (c : UInt8) : Prop where
 low : c.toNat < 128
 dig : 0 ≤ digR c.toNat ∧ digR c.toNat < b
 ne10 : c.toNat ≠ 120 ∧ c.toNat ≠ 45
theorem hexB_dig {b d : Nat} (g : Bool) (hb : b ≤ 16) (h : d < b) : IsDig b (hexB g d) ∧ digR ((hexB g d).toNat : Int) = d := by
 have hd : d < 16 := by omega
 have h1 : ((List.range 16).all fun d => decide ((hexB g d).toNat < 128) && (decide (digR ((hexB g d).toNat : Int) = (d : Int)) && (decide ((hexB g d).toNat ≠ 120) && decide ((hexB g d).toNat ≠ 45)))) = true := by cases g <;> decide +kernel
 have h2 := List.all_eq_true.1 h1 d (List.mem_range.2 hd)
 simp only [Bool.and_eq_true, decide_eq_true_eq] at h2
 obtain ⟨a1, a2, a3, a4⟩ := h2
 exact ⟨⟨a1, by rw [a2]; omega, a3, a4⟩, a2⟩
theorem digs_dig {b : Nat} (hb : 2 ≤ b) (hb16 : b ≤ 16) (g : Bool) : ∀ n, ∀ c ∈ digs b g n, IsDig b c := by
 intro n
 induction n using Nat.strongRecOn with
 | _ n ih =>
  intro c hc
  by_cases h : n < b
  ·rw [digs_lo g h] at hc
   simp only [List.mem_cons, List.not_mem_nil, or_false] at hc
   subst hc
   exact (hexB_dig g hb16 h).1
  ·rw [digs_hi hb g (by omega), List.mem_append] at hc
   rcases hc with hc | hc
   ·exact ih _ (Nat.div_lt_self (by omega) (by omega)) c hc
   ·simp only [List.mem_cons, List.not_mem_nil, or_false] at hc
    subst hc
    exact (hexB_dig g hb16 (Nat.mod_lt _ (by omega))).1
def foldD (b : Int) (cs : List UInt8) (n : Int) : Int := cs.foldl (fun n c => min (n * b + digR (c.toNat : Int)) 4294967297) n
theorem foldD_digs {b : Nat} (hb : 2 ≤ b) (hb16 : b ≤ 16) (g : Bool) : ∀ n : Nat, foldD b (digs b g n) 0 = min (n : Int) 4294967297 := by
 intro n
 induction n using Nat.strongRecOn with
 | _ n ih =>
  by_cases h : n < b
  ·rw [digs_lo g h]
   unfold foldD
   simp only [List.foldl_cons, List.foldl_nil]
   rw [(hexB_dig g hb16 h).2, Int.zero_mul, Int.zero_add]
  ·have hi := ih (n / b) (Nat.div_lt_self (by omega) (by omega))
   have hm : n % b < b := Nat.mod_lt _ (by omega)
   rw [digs_hi hb g (by omega)]
   unfold foldD at hi ⊢
   rw [List.foldl_append, hi]
   simp only [List.foldl_cons, List.foldl_nil]
   rw [(hexB_dig g hb16 hm).2]
   have hq : (n : Int) = (n / b : Nat) * b + (n % b : Nat) := by
    have := Nat.div_add_mod n b
    rw [Nat.mul_comm] at this
    exact_mod_cast this.symm
   by_cases hc : ((n / b : Nat) : Int) ≤ 4294967297
   ·have hmin : min ((n / b : Nat) : Int) 4294967297 = ((n / b : Nat) : Int) := by omega
    rw [hmin, ← hq]
   ·have hmin : min ((n / b : Nat) : Int) 4294967297 = 4294967297 := by omega
    rw [hmin]
    have h1 : (4294967297 : Int) * 2 ≤ 4294967297 * b := Int.mul_le_mul_of_nonneg_left (by omega) (by omega)
    have h2 : ((n / b : Nat) : Int) * 1 ≤ ((n / b : Nat) : Int) * b := Int.mul_le_mul_of_nonneg_left (by omega) (by omega)
    generalize ((n / b : Nat) : Int) * b = q at *
    generalize (4294967297 : Int) * (b : Int) = q' at *
    omega
theorem rune_ascii {c : UInt8} (h : c.toNat < 128) (r : List UInt8) : runeR (c :: r) = (c.toNat : Int) ∧ wideR (c :: r) = 1 := by
 unfold runeR wideR
 rw [decodeL_ascii c r h]
 exact ⟨rfl, rfl⟩
theorem digF_run {b : Nat} {tail : List UInt8} : ∀ (cs pre : List UInt8) (f : Nat) (n : Int), (∀ c ∈ cs, IsDig b c) →
  digF (pre ++ (cs ++ tail)) b (f + cs.length) pre.length n = digF (pre ++ (cs ++ tail)) b f (pre.length + cs.length) (foldD b cs n)
 | [], pre, f, n, _ => rfl
 | c :: cs, pre, f, n, h => by
  have hc := h c (by simp)
  obtain ⟨r1, r2⟩ := rune_ascii hc.low (cs ++ tail)
  have e : (pre ++ (c :: cs ++ tail)).drop pre.length = c :: (cs ++ tail) := by simp
  rw [List.length_cons, show f + (cs.length + 1) = (f + cs.length) + 1 by omega]
  conv => lhs; unfold digF
  rw [e, if_pos (by simp), r1, if_neg (by have := hc.dig; omega), r2]
  have ih := digF_run (tail := tail) cs (pre ++ [c]) f (min (n * b + digR (c.toNat : Int)) 4294967297) (fun c hc => h c (by simp [hc]))
  simp only [List.length_append, List.length_cons, List.length_nil, List.append_assoc, List.cons_append, List.nil_append, Nat.zero_add] at ih
  rw [List.cons_append, show pre.length + (cs.length + 1) = pre.length + 1 + cs.length by omega]
  exact ih
theorem digF_end (l : List UInt8) (b : Int) (f p : Nat) (n : Int) (h : ¬ p < l.length) : digF l b f p n = (n, p) := by
 cases f with
 | zero => rfl
 | succ f => unfold digF; rw [if_neg h]
theorem digZ_digs {b : Nat} (hb : 2 ≤ b) (hb16 : b ≤ 16) (g : Bool) (n : Nat) : digZ (digs b g n) b = (min (n : Int) 4294967297, (digs b g n).length) := by
 unfold digZ
 have := digF_run (tail := []) (digs b g n) [] 0 0 (digs_dig hb hb16 g n)
 simp only [List.nil_append, List.append_nil, List.length_nil, Nat.zero_add] at this
 rw [this, digF_end _ _ _ _ _ (by omega), foldD_digs hb hb16]
theorem prefix_mem {l : List UInt8} {a c : UInt8} (h : hasPrefix l [a, c] = true) : c ∈ l := by
 unfold hasPrefix at h
 rw [List.isPrefixOf_iff_prefix] at h
 exact h.subset (by simp)
theorem prefix_mem1 {l : List UInt8} {a : UInt8} (h : hasPrefix l [a] = true) : a ∈ l := by
 unfold hasPrefix at h
 rw [List.isPrefixOf_iff_prefix] at h
 exact h.subset (by simp)
theorem numZ_dec (n : Nat) : numZ (digs 10 false n) = (min (n : Int) 4294967297, (digs 10 false n).length) := by
 have hd := digs_dig (b := 10) (by omega) (by omega) false n
 have h1 : ¬ hasPrefix (digs 10 false n) [48, 120] = true := fun h => (hd 120 (prefix_mem h)).ne10.1 rfl
 have h2 : ¬ hasPrefix (digs 10 false n) [45] = true := fun h => (hd 45 (prefix_mem1 h)).ne10.2 rfl
 unfold numZ
 rw [if_neg (fun h => h1 h.1), if_neg (fun h => h2 h.1)]
 exact digZ_digs (by omega) (by omega) false n
theorem numZ_neg (n : Nat) : numZ (45 :: digs 10 false n) = (-(min (n : Int) 4294967297), 1 + (digs 10 false n).length) := by
 have hz := digZ_digs (b := 10) (by omega) (by omega) false n
 have hl : 0 < (digs 10 false n).length := List.length_pos_iff.2 (digs_ne (by omega) false n)
 unfold numZ
 rw [if_neg (fun h => by have := h.1; unfold hasPrefix at this; simp [List.isPrefixOf] at this)]
 have hdz : digZ ((45 :: digs 10 false n).drop 1) 10 = (min (n : Int) 4294967297, (digs 10 false n).length) := hz
 rw [hdz, if_pos ⟨by unfold hasPrefix; simp [List.isPrefixOf], hl⟩]
theorem firstR_low {c : Nat} (h : c = 45 ∨ (48 ≤ c ∧ c ≤ 57)) : firstR (c : Int) = false := by
 have h1 : ((List.range 58).all fun c => decide (c < 45) || (decide (c = 46 ∨ c = 47) || !firstR (c : Int))) = true := by decide +kernel
 have h2 := List.all_eq_true.1 h1 c (List.mem_range.2 (by omega))
 simp only [Bool.or_eq_true, decide_eq_true_eq, Bool.not_eq_true'] at h2
 rcases h2 with h2 | h2 | h2
 ·omega
 ·omega
 ·exact h2
theorem digs_head {n : Nat} : ∃ c r, digs 10 false n = c :: r ∧ 48 ≤ c.toNat ∧ c.toNat ≤ 57 := by
 cases h : digs 10 false n with
 | nil => exact absurd h (digs_ne (by omega) false n)
 | cons c r =>
  have hc := digs_dig (b := 10) (by omega) (by omega) false n c (by rw [h]; simp)
  have := hc.dig
  have h2 := hc.low
  refine ⟨c, r, rfl, ?_⟩
  unfold digR at this
  split at this
  ·omega
  ·split at this
   ·omega
   ·split at this <;> omega
theorem digs_len {b : Nat} (hb : 2 ≤ b) (g : Bool) : ∀ (k n : Nat), n < b ^ (k + 1) → (digs b g n).length ≤ k + 1
 | 0, n, h => by rw [digs_lo g (by simpa using h)]; simp
 | k + 1, n, h => by
  by_cases hn : n < b
  ·rw [digs_lo g hn]; simp
  ·rw [digs_hi hb g (by omega), List.length_append]
   have : n / b < b ^ (k + 1) := by
    rw [Nat.div_lt_iff_lt_mul (by omega)]
    rw [Nat.pow_succ] at h
    exact h
   have := digs_len hb g k (n / b) this
   simp only [List.length_cons, List.length_nil]
   omega
def decN (n : Int) : List UInt8 := if n < 0 then 45 :: digs 10 false n.natAbs else digs 10 false n.natAbs
theorem decN_len {n : Int} (h : -17179869184 ≤ n ∧ n ≤ 17179869184) : (decN n).length ≤ 12 := by
 have := digs_len (b := 10) (by omega) false 10 n.natAbs (by
  show n.natAbs < 100000000000
  omega)
 unfold decN
 split
 ·rw [List.length_cons]; omega
 ·omega
end Go.Proofs.YtcaibahniheohaaDoor.Words

/- Contract of the document's own Dec: a number, in decimal. -/
namespace Go.Proofs.YtcaibahniheohaaDoor.Words
set_option maxRecDepth 100000
open Go.RowKit Go.Shelf Go.Lib
set_option linter.unusedVariables false
theorem dec_cut (m : Nat) (h : m < 10) : (⟨#[48, 49, 50, 51, 52, 53, 54, 55, 56, 57]⟩ : ByteArray).extract m (m + 1) = txt [hexB false m] := by
 match m, h with
 | 0, _ => decide
 | 1, _ => decide
 | 2, _ => decide
 | 3, _ => decide
 | 4, _ => decide
 | 5, _ => decide
 | 6, _ => decide
 | 7, _ => decide
 | 8, _ => decide
 | 9, _ => decide
 | n + 10, h => exact absurd h (by omega)
theorem txt_join (a b : List UInt8) : txt a ++ txt b = txt (a ++ b) := by
 apply txt_eq
 rw [ByteArray.data_append, Array.toList_append]
theorem txt_len (a : List UInt8) : (txt a).size = a.length := by rw [← data_len]
theorem dec_len {n : Nat} (h : n ≤ 17179869184) : (digs 10 false n).length ≤ 11 := digs_len (b := 10) (by omega) false 10 n (by show n < 100000000000; omega)
set_option maxHeartbeats 1000000 in
theorem dec_nat : ∀ n : Nat, n ≤ 17179869184 → ∀ w : World, Calls Tryd.prog 101 #[.int .i64 (n : Int)] w fun e w' => e = .returned (.string (txt (digs 10 false n))) ∧ w = w' := by
 intro n
 induction n using Nat.strongRecOn with
 | _ n ih =>
  intro hn w
  obtain ⟨m, hm⟩ : ∃ m, m = n % 10 := ⟨_, rfl⟩
  have HM := Lib.hid hm
  have hm9 : m < 10 := by omega
  have m0 : (0 : Int) ≤ m := by omega
  have m9 : (m : Int) + 1 ≤ 10 := by omega
  have hc := dec_cut m hm9
  have h1 : decide ((n : Int) ≤ -10) = false := decide_eq_false (by omega)
  have h2 : decide ((n : Int) < 0) = false := decide_eq_false (by omega)
  have n0 : (0 : Int) ≤ n := by omega
  have n1 : (n : Int) ≤ 17179869184 := by omega
  have hmod : (n : Int) % 10 = (m : Int) := by omega
  clear hm
  by_cases h : n < 10
  ·have h3 : decide (9 < (n : Int)) = false := decide_eq_false (by omega)
   have hd := Lib.hid (digs_lo (b := 10) false h)
   have hnm : Hid (m = n) := by have := HM.out; show _ = _; omega
   clear ih
   go_enter Tryd.func101, Tryd.ntmps101
   go_wp2_with fail
   go_ret
   exact ⟨by rw [hd.out, hnm.out]; rfl, rfl⟩
  ·have h3 : decide (9 < (n : Int)) = true := decide_eq_true (by omega)
   have hd := Lib.hid (digs_hi (b := 10) (n := n) (by omega) false (by omega))
   have ih' := ih (n / 10) (by omega) (by omega) w
   rw [show ((n / 10 : Nat) : Int) = (n : Int) / 10 by omega] at ih'
   have hl := dec_len (n := n / 10) (by omega)
   have hs1 := txt_len (digs 10 false (n / 10))
   have hs2 := txt_len [hexB false m]
   have HJ := Lib.hid (txt_join (digs 10 false (n / 10)) [hexB false m])
   generalize digs 10 false (n / 10) = Q at *
   generalize hX : txt Q = X at *
   generalize hY : txt [hexB false m] = Y at *
   have hsum : ¬ (X.size + Y.size > 9223372036854775807) := by rw [hs1, hs2]; simp; omega
   have HX := Lib.hid hX
   have HY := Lib.hid hY
   have IH := Lib.hid ih'
   clear ih ih' hl hs1 hs2 hX hY
   go_enter Tryd.func101, Tryd.ntmps101
   go_wp2_with (go_at_call 101; refine IH.out.mono ?_; rintro e w1 ⟨rfl, rfl⟩)
   go_ret
   refine ⟨?_, rfl⟩
   rw [hd.out, ← HM.out, ← HJ.out]
   rfl
set_option maxHeartbeats 1000000 in
theorem dec_neg (m : Nat) (h0 : 0 < m) (hm : m ≤ 17179869184) (w : World) : Calls Tryd.prog 101 #[.int .i64 (-(m : Int))] w fun e w' => e = .returned (.string (txt (45 :: digs 10 false m))) ∧ w = w' := by
 have hl := dec_len (n := m) hm
 have m1 : (m : Int) ≤ 17179869184 := by omega
 have m2 : (0 : Int) < m := by omega
 by_cases h : m < 10
 ·have h1 : decide (-(m : Int) ≤ -10) = false := decide_eq_false (by omega)
  have h2 : decide (-(m : Int) < 0) = true := decide_eq_true (by omega)
  have ih := dec_nat m hm w
  have hs1 := txt_len (digs 10 false m)
  have HJ := Lib.hid (txt_join [45] (digs 10 false m))
  generalize hX : txt (digs 10 false m) = X at *
  have hsum : ¬ ((⟨#[45]⟩ : ByteArray).size + X.size > 9223372036854775807) := by
   have : (⟨#[45]⟩ : ByteArray).size = 1 := rfl
   omega
  have IH := Lib.hid ih
  clear ih hs1 hX hl
  go_enter Tryd.func101, Tryd.ntmps101
  go_wp2_with (go_at_call 101; refine IH.out.mono ?_; rintro e w1 ⟨rfl, rfl⟩)
  go_ret
  refine ⟨?_, rfl⟩
  rw [show (45 :: digs 10 false m) = [45] ++ digs 10 false m from rfl, ← HJ.out]
  rfl
 ·have h1 : decide (-(m : Int) ≤ -10) = true := decide_eq_true (by omega)
  have ih1 := dec_nat (m / 10) (by omega) w
  have ih2 := dec_nat (m % 10) (by omega) w
  rw [show ((m / 10 : Nat) : Int) = (m : Int) / 10 by omega] at ih1
  rw [show ((m % 10 : Nat) : Int) = (m : Int) % 10 by omega] at ih2
  have hd := digs_hi (b := 10) (n := m) (by omega) false (by omega)
  have hlo := digs_lo (b := 10) (n := m % 10) false (by omega)
  rw [← hlo] at hd
  have hl1 := dec_len (n := m / 10) (by omega)
  have hl2 := dec_len (n := m % 10) (by omega)
  have hs1 := txt_len (digs 10 false (m / 10))
  have hs2 := txt_len (digs 10 false (m % 10))
  have HJ : Hid ((txt [45] ++ txt (digs 10 false (m / 10))) ++ txt (digs 10 false (m % 10)) = txt (45 :: digs 10 false m)) := by
   show _ = _
   rw [txt_join, txt_join, hd]
   rfl
  have hs3 := txt_len ([45] ++ digs 10 false (m / 10))
  rw [← txt_join] at hs3
  generalize txt (digs 10 false (m / 10)) = X at *
  generalize txt (digs 10 false (m % 10)) = Y at *
  have hsum : ¬ ((⟨#[45]⟩ : ByteArray).size + X.size > 9223372036854775807) := by
   have : (⟨#[45]⟩ : ByteArray).size = 1 := rfl
   omega
  have hsum2 : ¬ (((⟨#[45]⟩ : ByteArray) ++ X).size + Y.size > 9223372036854775807) := by
   have : ((⟨#[45]⟩ : ByteArray) ++ X).size = ([45] ++ digs 10 false (m / 10)).length := hs3
   rw [this, hs2, List.length_append]
   simp
   omega
  have IH1 := Lib.hid ih1
  have IH2 := Lib.hid ih2
  clear ih1 ih2 hs1 hs2 hs3 hd hlo hl1 hl2 hl
  go_enter Tryd.func101, Tryd.ntmps101
  go_wp2_with fail
  refine IH1.out.mono ?_; rintro e w1 ⟨rfl, rfl⟩
  go_wp2_with fail
  refine IH2.out.mono ?_; rintro e w2 ⟨rfl, rfl⟩
  go_wp2_with fail
  go_ret
  refine ⟨?_, rfl⟩
  rw [← HJ.out]
  rfl
theorem dec_any (n : Int) (w : World) (h : -17179869184 ≤ n ∧ n ≤ 17179869184) : Calls Tryd.prog 101 #[.int .i64 n] w fun e w' => e = .returned (.string (txt (decN n))) ∧ w = w' := by
 unfold decN
 by_cases h0 : n < 0
 ·rw [if_pos h0]
  have := dec_neg n.natAbs (by omega) (by omega) w
  rwa [show -((n.natAbs : Nat) : Int) = n by omega] at this
 ·rw [if_neg h0]
  have := dec_nat n.natAbs (by omega) w
  rwa [show ((n.natAbs : Nat) : Int) = n by omega] at this
end Go.Proofs.YtcaibahniheohaaDoor.Words

/- 'Kept W x': below the heap of W nothing has turned. The condition for chains of calls that make memory. Nothing here speaks of one program. -/
namespace Go.Proofs.YtcaibahniheohaaDoor.Words
set_option maxRecDepth 100000
open Go.RowKit
def Kept (W x : World) : Prop := Below W.heap.size W x
theorem Kept.refl (W : World) : Kept W W := Below.refl _ _
theorem Kept.to {W x y : World} (h : Kept W x) (hb : Below x.heap.size x y) : Kept W y := Below.trans h (hb.mono (Below.size h))
theorem Kept.drewN {W x : World} (h : Kept W x) (k : Nat) : Kept W (x.drewN k) := Below.drewN_ h k
theorem Kept.drew {W x : World} (h : Kept W x) : Kept W x.drew := Below.drew h
theorem Kept.alloc {W x : World} (h : Kept W x) (o : Obj) : Kept W (x.alloc o) := Below.alloc h (Below.size h) o
theorem Kept.cell {W x : World} (h : Kept W x) {b o : Nat} {v : Value} (hb : b < W.heap.size) (hv : W.cell? ⟨b, o, none⟩ = some v) : x.cell? ⟨b, o, none⟩ = some v := by
 rw [Below.cell (p := ⟨b, o, none⟩) h hb]; exact hv
theorem Kept.size {W x : World} (h : Kept W x) : W.heap.size ≤ x.heap.size := Below.size h
theorem Kept.row {W x : World} (h : Kept W x) {s n : Nat} {v : Value} {xs : List Value} (hr : Row W W.heap.size s v n xs) : Row x x.heap.size s v n xs := (hr.below h).more h.size
theorem Kept.trans {W x y : World} (h : Kept W x) (g : Kept x y) : Kept W y := h.to g
end Go.Proofs.YtcaibahniheohaaDoor.Words

/- The document's own reader of tokens: its block, what it looks at, and where it fails. -/
namespace Go.Proofs.YtcaibahniheohaaDoor.Words
set_option maxRecDepth 100000
open Go.RowKit Go.Shelf Go.Lib
set_option linter.unusedVariables false
set_option linter.unusedSimpArgs false
def isQ (T : List Tok) (n : Nat) (bad : Int) (k : Int) (t : List UInt8) : Bool := decide (bad < 0) && (match T[n]? with | some x => decide (x.kind = k) && (decide (t = []) || decide (x.text = t)) | none => false)
def atQ (T : List Tok) (E n : Nat) : Int := match T[n]? with | some x => (x.at_ : Int) | none => E
def failQ (T : List Tok) (E n : Nat) (bad : Int) : Int := if 0 ≤ bad then bad else atQ T E n
def Rd (w : World) (b : Nat) (A : Option Addr) (c : Nat) (T : List Tok) (E n : Nat) (bad : Int) : Prop :=
 Box w b [.slice A T.length c, .int .i64 (E : Int), .int .i64 (n : Int), .int .i64 bad] ∧ Row w b 4 (.slice A T.length c) T.length (toksL T) ∧ n ≤ T.length ∧ T.length ≤ 1000000
section
variable {w w' : World} {b c : Nat} {A : Option Addr} {T : List Tok} {E n : Nat} {bad : Int}
theorem Rd.lt (h : Rd w b A c T E n bad) : b < w.heap.size := h.1.lt
theorem Rd.go (h : Rd w b A c T E n bad) (hb : Below w.heap.size w w') : Rd w' b A c T E n bad := by
 have hl := h.lt
 obtain ⟨h1, h2, h3⟩ := h
 exact ⟨h1.below hb hl, h2.below (hb.mono (Nat.le_of_lt hl)), h3⟩
theorem Rd.toBad (h : Rd w b A c T E n bad) (k : Int) : Rd (w.setCell ⟨b, 3, none⟩ (.int .i64 k)) b A c T E n k ∧ KeepS (fun j => j = b) w (w.setCell ⟨b, 3, none⟩ (.int .i64 k)) := by
 have hK : KeepS (fun j => j = b) w (w.setCell ⟨b, 3, none⟩ (.int .i64 k)) := (KeepS.refl (fun j => j = b) w).setCell rfl 3 _
 have hB : Below b w (w.setCell ⟨b, 3, none⟩ (.int .i64 k)) := (Below.refl _ _).setCell (p := ⟨b, 3, none⟩) (Nat.le_refl _) _
 obtain ⟨h1, h2, h3⟩ := h
 exact ⟨⟨h1.setCell 3 _, h2.below hB, h3⟩, hK⟩
theorem Rd.next (h : Rd w b A c T E n bad) {m : Nat} (hm : m ≤ T.length) : Rd (w.setCell ⟨b, 2, none⟩ (.int .i64 (m : Int))) b A c T E m bad ∧ KeepS (fun j => j = b) w (w.setCell ⟨b, 2, none⟩ (.int .i64 (m : Int))) := by
 have hK : KeepS (fun j => j = b) w (w.setCell ⟨b, 2, none⟩ (.int .i64 (m : Int))) := (KeepS.refl (fun j => j = b) w).setCell rfl 2 _
 have hB : Below b w (w.setCell ⟨b, 2, none⟩ (.int .i64 (m : Int))) := (Below.refl _ _).setCell (p := ⟨b, 2, none⟩) (Nat.le_refl _) _
 obtain ⟨h1, h2, h3, h4⟩ := h
 exact ⟨⟨h1.setCell 2 _, h2.below hB, hm, h4⟩, hK⟩
end
theorem Rd.keepS {S : Nat → Prop} {w w' : World} {b c : Nat} {A : Option Addr} {T : List Tok} {E n : Nat} {bad : Int} (h : Rd w b A c T E n bad) (hk : KeepS S w w') (hs : ∀ k, S k → b < k) : Rd w' b A c T E n bad := by
 have hl := h.lt
 obtain ⟨h1, h2, h3⟩ := h
 exact ⟨h1.keepS hk (fun e => by have := hs _ e; omega), h2.keepS hk (Nat.le_of_lt hl) (fun k e => by have := hs _ e; omega), h3⟩
theorem box_set4 {w : World} {b : Nat} {a0 a1 a2 a3 v0 v1 v2 v3 : Value} (h : Box w b [a0, a1, a2, a3]) :
  Box ((((w.setCell ⟨b, 0, none⟩ v0).setCell ⟨b, 1, none⟩ v1).setCell ⟨b, 2, none⟩ v2).setCell ⟨b, 3, none⟩ v3) b [v0, v1, v2, v3] ∧
  KeepS (fun j => j = b) w ((((w.setCell ⟨b, 0, none⟩ v0).setCell ⟨b, 1, none⟩ v1).setCell ⟨b, 2, none⟩ v2).setCell ⟨b, 3, none⟩ v3) :=
 ⟨(((h.setCell 0 v0).setCell 1 v1).setCell 2 v2).setCell 3 v3, ((((KeepS.refl (fun j => j = b) w).setCell rfl 0 v0).setCell rfl 1 v1).setCell rfl 2 v2).setCell rfl 3 v3⟩
theorem txt_eqQ (a b : List UInt8) : ((txt a).toList == (txt b).toList) = decide (a = b) := by
 rw [Lib.toList_data, Lib.toList_data, txt_data, txt_data]
 by_cases h : a = b <;> simp [h]
theorem txt_isQ (a : List UInt8) : ((txt a).toList == []) = decide (a = []) := by
 rw [Lib.toList_data, txt_data]
 cases a <;> rfl
set_option maxHeartbeats 4000000 in
theorem refIs_any (b c : Nat) (A : Option Addr) (T : List Tok) (E n : Nat) (bad k : Int) (t : List UInt8) (w : World) (h : Rd w b A c T E n bad) :
  Calls Tryd.prog 39 #[.pointer (some ⟨b, 0, none⟩), .int .i64 k, .string (txt t)] w fun e w' => e = .returned (.bool (isQ T n bad k t)) ∧ ∃ m, w' = w.drewN m := by
 obtain ⟨hbx, hrow, hn, hT⟩ := h
 have c0 := hbx.cell (k := 0) rfl
 have c1 := hbx.cell (k := 1) rfl
 have c2 := hbx.cell (k := 2) rfl
 have c3 := hbx.cell (k := 3) rfl
 by_cases hb : bad < 0
 ·have g1 : decide (bad < 0) = true := decide_eq_true hb
  by_cases hnl : n < T.length
  ·obtain ⟨x, hx⟩ : ∃ x, T[n]? = some x := ⟨_, List.getElem?_eq_getElem hnl⟩
   obtain ⟨g, o, rfl, hg, _⟩ := hrow.at_ (by omega)
   obtain ⟨x0, x1, x2, x3⟩ := Row.tok hrow (k := n) hx
   have g2 : decide ((n : Int) < (T.length : Int)) = true := decide_eq_true (by omega)
   have g2' : decide (n < T.length) = true := decide_eq_true hnl
   have n0 : (0 : Int) ≤ n := by omega
   have n1 : (n : Int) < T.length := by omega
   have hq : isQ T n bad k t = (decide (x.kind = k) && (decide (t = []) || decide (x.text = t))) := by
    unfold isQ; rw [hx, g1]; rfl
   rw [hq]
   by_cases hk : x.kind = k
   ·have g3 : (x.kind == k) = true := by simpa using hk
    have k3 : decide (x.kind = k) = true := decide_eq_true hk
    rw [k3]
    by_cases ht : t = []
    ·have g4 : ((txt t).toList == []) = true := by rw [txt_isQ]; exact decide_eq_true ht
     have g6 : t.isEmpty = true := by rw [ht]; rfl
     have k4 : decide (t = []) = true := decide_eq_true ht
     rw [k4]
     clear hq hrow hbx hn hT hb hnl hx hg hk ht
     go_enter Tryd.func39, Tryd.ntmps39
     go_wp2_with fail
     go_quiet (fail)
     go_wp2_with fail
     go_ret
     exact ⟨by first | rfl | simp, _, rfl⟩
    ·have g4 : ((txt t).toList == []) = false := by rw [txt_isQ]; exact decide_eq_false ht
     have g6 : t.isEmpty = false := by cases t with | nil => exact absurd rfl ht | cons a l => rfl
     have g5 : ((txt x.text).toList == (txt t).toList) = decide (x.text = t) := txt_eqQ _ _
     have k4 : decide (t = []) = false := decide_eq_false ht
     rw [k4]
     clear hq hrow hbx hn hT hb hnl hx hg hk ht
     go_enter Tryd.func39, Tryd.ntmps39
     go_wp2_with fail
     go_quiet (fail)
     go_wp2_with fail
     go_ret
     exact ⟨by by_cases h : x.text = t <;> simp [h], _, rfl⟩
   ·have g3 : (x.kind == k) = false := by simpa using hk
    have k3 : decide (x.kind = k) = false := decide_eq_false hk
    rw [k3]
    clear hq hrow hbx hn hT hb hnl hx hg hk
    go_enter Tryd.func39, Tryd.ntmps39
    go_wp2_with fail
    go_quiet (fail)
    go_wp2_with fail
    go_ret
    exact ⟨by first | rfl | simp, _, rfl⟩
  ·have g2 : decide ((n : Int) < (T.length : Int)) = false := decide_eq_false (by omega)
   have g2' : decide (n < T.length) = false := decide_eq_false hnl
   have hx : T[n]? = none := List.getElem?_eq_none (by omega)
   have hq : isQ T n bad k t = false := by unfold isQ; rw [hx, g1]; rfl
   rw [hq]
   clear hq hrow hbx hn hT hb hnl hx
   go_enter Tryd.func39, Tryd.ntmps39
   go_wp2_with fail
   go_quiet (fail)
   go_wp2_with fail
   go_ret
   exact ⟨by first | rfl | simp, _, rfl⟩
 ·have g1 : decide (bad < 0) = false := decide_eq_false hb
  have hq : isQ T n bad k t = false := by unfold isQ; rw [g1]; rfl
  rw [hq]
  clear hq hrow hbx hn hT hb
  go_enter Tryd.func39, Tryd.ntmps39
  go_wp2_with fail
  go_quiet (fail)
  go_wp2_with fail
  go_ret
  exact ⟨by first | rfl | simp, _, rfl⟩
def RdOut (b c : Nat) (A : Option Addr) (T : List Tok) (E m : Nat) (bad : Int) (w w' : World) : Prop := Rd w' b A c T E m bad ∧ KeepS (fun j => j = b) w w'
set_option maxHeartbeats 4000000 in
theorem refFail_any (b c : Nat) (A : Option Addr) (T : List Tok) (E n : Nat) (bad : Int) (w : World) (h : Rd w b A c T E n bad) :
  Calls Tryd.prog 43 #[.pointer (some ⟨b, 0, none⟩)] w fun e w' => e = .returned (.tuple #[]) ∧ RdOut b c A T E n (failQ T E n bad) w w' := by
 have HR := Lib.hid h
 obtain ⟨hbx, hrow, hn, hT⟩ := h
 have c0 := hbx.cell (k := 0) rfl
 have c1 := hbx.cell (k := 1) rfl
 have c2 := hbx.cell (k := 2) rfl
 have c3 := hbx.cell (k := 3) rfl
 have f3 := hbx.frozen 3
 by_cases hb : bad < 0
 ·have g1 : decide (0 ≤ bad) = false := decide_eq_false (by omega)
  by_cases hnl : n < T.length
  ·obtain ⟨x, hx⟩ : ∃ x, T[n]? = some x := ⟨_, List.getElem?_eq_getElem hnl⟩
   obtain ⟨g, o, rfl, hg, _⟩ := hrow.at_ (by omega)
   obtain ⟨x0, x1, x2, x3⟩ := Row.tok hrow (k := n) hx
   have g2 : decide ((n : Int) < (T.length : Int)) = true := decide_eq_true (by omega)
   have g2' : decide (n < T.length) = true := decide_eq_true hnl
   have n0 : (0 : Int) ≤ n := by omega
   have n1 : (n : Int) < T.length := by omega
   have hq : failQ T E n bad = (x.at_ : Int) := by unfold failQ atQ; rw [if_neg (by omega), hx]
   rw [hq]
   have HX := Lib.hid hx
   clear hq hrow hbx hn hT hb hnl hx
   go_enter Tryd.func43, Tryd.ntmps43
   go_wp2_with fail
   go_quiet (fail)
   have hb1 := HR.out.toBad (E : Int)
   have HB1 := Lib.hid hb1.2
   have R1 := Lib.hid hb1.1
   clear hb1
   have R2 := Lib.hid (fun k => R1.out.go (Below.drewN_ (Below.refl _ (w.setCell ⟨b, 3, none⟩ (.int .i64 (E : Int)))) k))
   have B2 := Lib.hid (fun k => KeepS.drewN HB1.out k)
   have hc0 : (w.setCell ⟨b, 3, none⟩ (.int .i64 (E : Int))).cell? ⟨b, 0, none⟩ = some (.slice (some ⟨g, o, none⟩) T.length c) := R1.out.1.cell (k := 0) rfl
   have hc2 : (w.setCell ⟨b, 3, none⟩ (.int .i64 (E : Int))).cell? ⟨b, 2, none⟩ = some (.int .i64 (n : Int)) := R1.out.1.cell (k := 2) rfl
   go_wp2_with fail
   rename_i nq _
   have R3 := Lib.hid (R2.out nq)
   have B3 := Lib.hid (B2.out nq)
   generalize (w.setCell ⟨b, 3, none⟩ (.int .i64 (E : Int))).drewN nq = Y at *
   have r0 : Y.drew.cell? ⟨b, 0, none⟩ = some (.slice (some ⟨g, o, none⟩) T.length c) := R3.out.1.cell (k := 0) rfl
   have r2 : Y.drew.cell? ⟨b, 2, none⟩ = some (.int .i64 (n : Int)) := R3.out.1.cell (k := 2) rfl
   have r3 : Y.drew.cell? ⟨b, 3, none⟩ = some (.int .i64 (E : Int)) := R3.out.1.cell (k := 3) rfl
   have rf : Y.drew.frozen? ⟨b, 3, none⟩ = false := R3.out.1.frozen 3
   have rx : Y.drew.cell? ⟨g, o + n * 4 + 2, none⟩ = some (.int .i64 (x.at_ : Int)) := (Row.tok R3.out.2.1 (k := n) HX.out).2.2.1
   clear hc0 hc2
   have hS : Y.drew.cell? ⟨b, 0, none⟩ = some (.slice (some ⟨g, o, none⟩) T.length c) ∧ Y.drew.cell? ⟨b, 2, none⟩ = some (.int .i64 (n : Int)) ∧ Y.drew.cell? ⟨g, o + n * 4 + 2, none⟩ = some (.int .i64 (x.at_ : Int)) := ⟨r0, r2, rx⟩
   refine wp_region_lin [(0, true), (1, true), (2, true), (3, true), (4, true), (5, true), (6, true), (7, true), (8, true), (9, true), (10, true), (11, true), (12, true), (13, true), (14, false)]
    (by kernel_rfl) (by kernel_rfl) rfl (by kernel_rfl) (fun y => y.cell? ⟨b, 0, none⟩ = some (.slice (some ⟨g, o, none⟩) T.length c) ∧ y.cell? ⟨b, 2, none⟩ = some (.int .i64 (n : Int)) ∧ y.cell? ⟨g, o + n * 4 + 2, none⟩ = some (.int .i64 (x.at_ : Int))) ?_
   simp only [List.map_cons, List.map_nil, List.getElem?_toArray, List.getElem?_cons_succ, List.getElem?_cons_zero]
   iterate 14 (refine lin_take (v := ?_) (by assumption) (by rfl) ?_ ?_; rotate_left; (intro y hy; (try dsimp only at hy); obtain ⟨z0, z2, zx⟩ := hy; go_simp; try (with_reducible rfl)); (try simp only [Act.put, List.setIfInBounds_toArray, List.set_cons_zero, List.set_cons_succ]))
   refine lin_call (by assumption) (by rfl) (fun K hK => ?_)
   go_simp
   go_wp2_with fail
   obtain ⟨q1, q2⟩ := R3.out.toBad (x.at_ : Int)
   have R4 := Lib.hid q1
   have B4 := Lib.hid (B3.out.trans q2)
   refine hK.out _ _ ⟨q1.1.cell (k := 0) rfl, q1.1.cell (k := 2) rfl, (Row.tok q1.2.1 (k := n) HX.out).2.2.1⟩ (fun _ => ?_)
   clear hK K q1 q2 hS r0 r2 r3 rf rx
   try simp only [Act.put, List.setIfInBounds_toArray, List.set_cons_zero, List.set_cons_succ]
   refine lin_done ?_
   go_wp2_with fail
   exact bodyPost_end (v := .tuple #[]) (by simp [results, Tryd.results43]) rfl ⟨rfl, R4.out, B4.out.drew⟩
  ·have g2 : decide ((n : Int) < (T.length : Int)) = false := decide_eq_false (by omega)
   have g2' : decide (n < T.length) = false := decide_eq_false hnl
   have hx : T[n]? = none := List.getElem?_eq_none (by omega)
   have hq : failQ T E n bad = (E : Int) := by unfold failQ atQ; rw [if_neg (by omega), hx]
   rw [hq]
   have hb1 := HR.out.toBad (E : Int)
   have HB1 := Lib.hid hb1.2
   have R1 := Lib.hid hb1.1
   have R2 := Lib.hid (fun k => R1.out.go (Below.drewN_ (Below.refl _ (w.setCell ⟨b, 3, none⟩ (.int .i64 (E : Int)))) k))
   have B2 := Lib.hid (fun k => KeepS.drewN HB1.out k)
   have hc0 : (w.setCell ⟨b, 3, none⟩ (.int .i64 (E : Int))).cell? ⟨b, 0, none⟩ = some (.slice A T.length c) := R1.out.1.cell (k := 0) rfl
   have hc2 : (w.setCell ⟨b, 3, none⟩ (.int .i64 (E : Int))).cell? ⟨b, 2, none⟩ = some (.int .i64 (n : Int)) := R1.out.1.cell (k := 2) rfl
   clear hq hrow hbx hn hT hb hnl hx hb1
   go_enter Tryd.func43, Tryd.ntmps43
   go_wp2_with fail
   go_quiet (fail)
   go_wp2_with fail
   exact bodyPost_end (v := .tuple #[]) (by simp [results, Tryd.results43]) rfl ⟨rfl, R2.out _, B2.out _⟩
 ·have g1 : decide (0 ≤ bad) = true := decide_eq_true (by omega)
  have hq : failQ T E n bad = bad := by unfold failQ; rw [if_pos (by omega)]
  rw [hq]
  clear hq hrow hbx hn hT hb
  go_enter Tryd.func43, Tryd.ntmps43
  go_wp2_with fail
  exact bodyPost_ret (v := .tuple #[]) (by simp [results, Tryd.results43, go_sem]) rfl ⟨rfl, HR.out, KeepS.refl _ _⟩
def takeTok (T : List Tok) (n : Nat) (bad k : Int) (t : List UInt8) : Tok := if isQ T n bad k t = true then T.getD n tok0 else tok0
def takeN (T : List Tok) (n : Nat) (bad k : Int) (t : List UInt8) : Nat := if isQ T n bad k t = true then n + 1 else n
def takeB (T : List Tok) (E n : Nat) (bad k : Int) (t : List UInt8) : Int := if isQ T n bad k t = true then bad else failQ T E n bad
theorem isQ_at {T : List Tok} {n : Nat} {bad k : Int} {t : List UInt8} (h : isQ T n bad k t = true) : ∃ x, T[n]? = some x ∧ n < T.length := by
 unfold isQ at h
 cases hx : T[n]? with
 | none => rw [hx] at h; simp at h
 | some x => exact ⟨x, rfl, (List.getElem?_eq_some_iff.1 hx).1⟩
abbrev tokVal (x : Tok) : Value := .agg #[.int .i64 x.kind, .int .i64 x.num, .int .i64 (x.at_ : Int), .string (txt x.text)]
set_option maxHeartbeats 4000000 in
theorem refTake_any (b c : Nat) (A : Option Addr) (T : List Tok) (E n : Nat) (bad k : Int) (t : List UInt8) (w : World) (h : Rd w b A c T E n bad) :
  Calls Tryd.prog 40 #[.pointer (some ⟨b, 0, none⟩), .int .i64 k, .string (txt t)] w fun e w' => e = .returned (tokVal (takeTok T n bad k t)) ∧ RdOut b c A T E (takeN T n bad k t) (takeB T E n bad k t) w w' := by
 have HR := Lib.hid (h.go ((Below.refl w.heap.size w).alloc (Nat.le_refl _) (.cells #[.int .i64 0, .int .i64 0, .int .i64 0, .string ⟨#[]⟩] 48)))
 have HB := Lib.hid ((KeepS.refl (fun j => j = b) w).alloc (.cells #[.int .i64 0, .int .i64 0, .int .i64 0, .string ⟨#[]⟩] 48))
 have HX := Lib.hid (Box.new w [.int .i64 0, .int .i64 0, .int .i64 0, .string ⟨#[]⟩] 48)
 change Hid (Box (w.alloc (.cells #[.int .i64 0, .int .i64 0, .int .i64 0, .string ⟨#[]⟩] 48)) w.heap.size _) at HX
 have HLT := Lib.hid h.lt
 have cI := Lib.hid (fun y (hy : Rd y b A c T E n bad) => refIs_any b c A T E n bad k t y hy)
 have cF := Lib.hid (fun y (hy : Rd y b A c T E n bad) => refFail_any b c A T E n bad y hy)
 cases hq : isQ T n bad k t
 ·have e1 : takeTok T n bad k t = tok0 := if_neg (by rw [hq]; decide)
  have e2 : takeN T n bad k t = n := if_neg (by rw [hq]; decide)
  have e3 : takeB T E n bad k t = failQ T E n bad := if_neg (by rw [hq]; decide)
  rw [e1, e2, e3]
  rw [hq] at cI
  clear e1 e2 e3 hq h
  go_enter Tryd.func40, Tryd.ntmps40
  go_wp2_with fail
  generalize (w.alloc (.cells #[.int .i64 0, .int .i64 0, .int .i64 0, .string ⟨#[]⟩] 48)) = W at *
  refine (cI.out _ HR.out).mono ?_
  rintro e w1 ⟨rfl, m, rfl⟩
  go_wp2_with fail
  refine (cF.out _ (HR.out.go (Below.drewN_ (Below.refl _ _) m))).mono ?_
  rintro e w2 ⟨rfl, h2, hb2⟩
  have hbW : KeepS (fun j => j = b) W w2 := ((KeepS.refl (fun j => j = b) W).drewN m).trans hb2
  have H2 := Lib.hid h2
  have HB2 := Lib.hid (HB.out.trans hbW)
  have hx2 : Box w2 w.heap.size _ := HX.out.keepS hbW (fun e => by have := HLT.out; omega)
  have HX2 := Lib.hid hx2
  have z0 := hx2.cell (k := 0) rfl
  have z1 := hx2.cell (k := 1) rfl
  have z2 := hx2.cell (k := 2) rfl
  have z3 := hx2.cell (k := 3) rfl
  have y0 := hx2.frozen 0
  have y1 := hx2.frozen 1
  have y2 := hx2.frozen 2
  have y3 := hx2.frozen 3
  clear hb2 hbW h2 hx2
  go_wp2_with fail
  obtain ⟨q1, q2⟩ := box_set4 (v0 := .int .i64 0) (v1 := .int .i64 0) (v2 := .int .i64 0) (v3 := .string ⟨#[]⟩) HX2.out
  have H3 := H2.out.keepS q2 (fun j hj => by have := HLT.out; omega)
  have K3 := HB2.out.newer (q2.mono (fun j hj => by omega))
  clear z0 z1 z2 z3 y0 y1 y2 y3
  generalize ((((w2.setCell ⟨w.heap.size, 0, none⟩ (.int .i64 0)).setCell ⟨w.heap.size, 1, none⟩ (.int .i64 0)).setCell ⟨w.heap.size, 2, none⟩ (.int .i64 0)).setCell ⟨w.heap.size, 3, none⟩ (.string ⟨#[]⟩)) = Z at *
  have c0 := q1.cell (k := 0) rfl
  have c1 := q1.cell (k := 1) rfl
  have c2 := q1.cell (k := 2) rfl
  have c3 := q1.cell (k := 3) rfl
  exact bodyPost_ret (v := tokVal tok0) (by simp [results, Tryd.results40, go_sem, c0, c1, c2, c3]) rfl ⟨rfl, H3, K3⟩
 ·obtain ⟨x, hx, hnl⟩ := isQ_at hq
  have e1 : takeTok T n bad k t = x := by unfold takeTok; rw [if_pos hq, List.getD_eq_getElem?_getD, hx]; rfl
  have e2 : takeN T n bad k t = n + 1 := if_pos hq
  have e3 : takeB T E n bad k t = bad := if_pos hq
  rw [e1, e2, e3]
  rw [hq] at cI
  obtain ⟨g, o, rfl, hg, _⟩ := h.2.1.at_ (by omega)
  have hT := h.2.2.2
  have HXX := Lib.hid hx
  have HNL := Lib.hid hnl
  have n0 : (0 : Int) ≤ n := by omega
  have n1 : (n : Int) < T.length := by omega
  have nT : (T.length : Int) ≤ 1000000 := by omega
  clear e1 e2 e3 hq h hx hg hT hnl
  go_enter Tryd.func40, Tryd.ntmps40
  go_wp2_with fail
  have hws : (w.alloc (.cells #[.int .i64 0, .int .i64 0, .int .i64 0, .string ⟨#[]⟩] 48)).heap.size = w.heap.size + 1 := by simp
  generalize (w.alloc (.cells #[.int .i64 0, .int .i64 0, .int .i64 0, .string ⟨#[]⟩] 48)) = W at *
  refine (cI.out _ HR.out).mono ?_
  rintro e w1 ⟨rfl, m, rfl⟩
  go_wp2_with fail
  have R3 := Lib.hid (HR.out.go (Below.drewN_ (Below.refl _ _) m))
  have B3 := Lib.hid (KeepS.drewN HB.out m)
  have X3 := Lib.hid (show Box (W.drewN m) w.heap.size _ from HX.out)
  have hws3 : (W.drewN m).heap.size = w.heap.size + 1 := hws
  generalize W.drewN m = Y at *
  have r0 : Y.drew.cell? ⟨b, 0, none⟩ = some (.slice (some ⟨g, o, none⟩) T.length c) := R3.out.1.cell (k := 0) rfl
  have r2 : Y.drew.cell? ⟨b, 2, none⟩ = some (.int .i64 (n : Int)) := R3.out.1.cell (k := 2) rfl
  obtain ⟨x0, x1, x2, x3⟩ := Row.tok R3.out.2.1 (k := n) HXX.out
  have hS : Y.drew.cell? ⟨b, 0, none⟩ = some (.slice (some ⟨g, o, none⟩) T.length c) ∧ Y.drew.cell? ⟨b, 2, none⟩ = some (.int .i64 (n : Int)) ∧ Y.drew.cell? ⟨g, o + n * 4, none⟩ = some (.int .i64 x.kind) ∧ Y.drew.cell? ⟨g, o + n * 4 + 1, none⟩ = some (.int .i64 x.num) ∧ Y.drew.cell? ⟨g, o + n * 4 + 2, none⟩ = some (.int .i64 (x.at_ : Int)) ∧ Y.drew.cell? ⟨g, o + n * 4 + 3, none⟩ = some (.string (txt x.text)) := ⟨r0, r2, x0, x1, x2, x3⟩
  refine wp_region_lin [(0, true), (1, true), (2, true), (3, true), (4, true), (5, true), (6, true), (7, true), (8, true), (9, true), (10, false), (11, false)]
   (by kernel_rfl) (by kernel_rfl) rfl (by kernel_rfl) (fun y => y.cell? ⟨b, 0, none⟩ = some (.slice (some ⟨g, o, none⟩) T.length c) ∧ y.cell? ⟨b, 2, none⟩ = some (.int .i64 (n : Int)) ∧ y.cell? ⟨g, o + n * 4, none⟩ = some (.int .i64 x.kind) ∧ y.cell? ⟨g, o + n * 4 + 1, none⟩ = some (.int .i64 x.num) ∧ y.cell? ⟨g, o + n * 4 + 2, none⟩ = some (.int .i64 (x.at_ : Int)) ∧ y.cell? ⟨g, o + n * 4 + 3, none⟩ = some (.string (txt x.text))) ?_
  simp only [List.map_cons, List.map_nil, List.getElem?_toArray, List.getElem?_cons_succ, List.getElem?_cons_zero]
  iterate 10 (refine lin_take (v := ?_) (by assumption) (by rfl) ?_ ?_; rotate_left; (intro y hy; (try dsimp only at hy); obtain ⟨z0, z2, zx0, zx1, zx2, zx3⟩ := hy; go_simp; try (with_reducible rfl)); (try simp only [Act.put, List.setIfInBounds_toArray, List.set_cons_zero, List.set_cons_succ]))
  clear r0 r2 x0 x1 x2 x3
  refine lin_call (by assumption) (by rfl) (fun K hK => ?_)
  go_simp
  go_wp2_with fail
  have hbU : Below Y.heap.size Y (Y.alloc (.cells #[.int .i64 0, .int .i64 0, .int .i64 0, .string ⟨#[]⟩] 48)).drew := ((Below.refl _ _).alloc (Nat.le_refl _) _).drew
  have RU := Lib.hid (R3.out.go hbU)
  have XU := Lib.hid (X3.out.below hbU (by omega))
  have nu : Box (Y.alloc (.cells #[.int .i64 0, .int .i64 0, .int .i64 0, .string ⟨#[]⟩] 48)).drew Y.heap.size [.int .i64 0, .int .i64 0, .int .i64 0, .string ⟨#[]⟩] := Box.new Y _ _
  rw [hws3] at nu
  have NU := Lib.hid nu
  have KU := Lib.hid (B3.out.go hbU)
  have sU := RU.out
  have xU := Row.tok sU.2.1 (k := n) HXX.out
  refine hK.out _ _ ⟨sU.1.cell (k := 0) rfl, sU.1.cell (k := 2) rfl, xU.1, xU.2.1, xU.2.2.1, xU.2.2.2⟩ (fun _ => ?_)
  clear hK K hS hbU sU xU nu
  try simp only [Act.put, List.setIfInBounds_toArray, List.set_cons_zero, List.set_cons_succ]
  generalize (Y.alloc (.cells #[.int .i64 0, .int .i64 0, .int .i64 0, .string ⟨#[]⟩] 48)).drew = U at *
  have hSU : U.cell? ⟨b, 0, none⟩ = some (.slice (some ⟨g, o, none⟩) T.length c) ∧ U.cell? ⟨b, 2, none⟩ = some (.int .i64 (n : Int)) ∧ U.cell? ⟨g, o + n * 4, none⟩ = some (.int .i64 x.kind) ∧ U.cell? ⟨g, o + n * 4 + 1, none⟩ = some (.int .i64 x.num) ∧ U.cell? ⟨g, o + n * 4 + 2, none⟩ = some (.int .i64 (x.at_ : Int)) ∧ U.cell? ⟨g, o + n * 4 + 3, none⟩ = some (.string (txt x.text)) := by
   have xU := Row.tok RU.out.2.1 (k := n) HXX.out
   exact ⟨RU.out.1.cell (k := 0) rfl, RU.out.1.cell (k := 2) rfl, xU.1, xU.2.1, xU.2.2.1, xU.2.2.2⟩
  refine lin_call (by assumption) (by rfl) (fun K hK => ?_)
  have z0 := NU.out.cell (k := 0) rfl
  have z1 := NU.out.cell (k := 1) rfl
  have z2 := NU.out.cell (k := 2) rfl
  have z3 := NU.out.cell (k := 3) rfl
  have y0 := NU.out.frozen 0
  have y1 := NU.out.frozen 1
  have y2 := NU.out.frozen 2
  have y3 := NU.out.frozen 3
  clear hSU
  go_simp
  go_wp2_with fail
  obtain ⟨q1, q2⟩ := box_set4 (v0 := .int .i64 x.kind) (v1 := .int .i64 x.num) (v2 := .int .i64 (x.at_ : Int)) (v3 := .string (txt x.text)) NU.out
  have RZ := Lib.hid (RU.out.keepS q2 (fun j hj => by have := HLT.out; omega))
  have XZ := Lib.hid (XU.out.keepS q2 (fun e => by omega))
  have KZ := Lib.hid (KU.out.newer (q2.mono (fun j hj => by omega)))
  have NZ := Lib.hid q1
  clear z0 z1 z2 z3 y0 y1 y2 y3 q1 q2
  generalize ((((U.setCell ⟨w.heap.size + 1, 0, none⟩ (.int .i64 x.kind)).setCell ⟨w.heap.size + 1, 1, none⟩ (.int .i64 x.num)).setCell ⟨w.heap.size + 1, 2, none⟩ (.int .i64 (x.at_ : Int))).setCell ⟨w.heap.size + 1, 3, none⟩ (.string (txt x.text))) = Z at *
  have xZ := Row.tok RZ.out.2.1 (k := n) HXX.out
  refine hK.out _ _ ⟨RZ.out.1.cell (k := 0) rfl, RZ.out.1.cell (k := 2) rfl, xZ.1, xZ.2.1, xZ.2.2.1, xZ.2.2.2⟩ (fun _ => ?_)
  clear hK K xZ
  try simp only [Act.put, List.setIfInBounds_toArray, List.set_cons_zero, List.set_cons_succ]
  refine lin_done ?_
  have c2 : Z.cell? ⟨b, 2, none⟩ = some (.int .i64 (n : Int)) := RZ.out.1.cell (k := 2) rfl
  have f2 : Z.frozen? ⟨b, 2, none⟩ = false := RZ.out.1.frozen 2
  obtain ⟨rn, kn⟩ := RZ.out.next (m := n + 1) HNL.out
  rw [show ((n + 1 : Nat) : Int) = (n : Int) + 1 by simp] at rn kn
  have RN := Lib.hid rn
  have KN := Lib.hid (KZ.out.trans kn)
  have XN := Lib.hid (XZ.out.keepS kn (fun e => by have := HLT.out; omega))
  have MN := Lib.hid (NZ.out.keepS kn (fun e => by have := HLT.out; omega))
  clear rn kn
  have m0 := MN.out.cell (k := 0) rfl
  have m1 := MN.out.cell (k := 1) rfl
  have m2 := MN.out.cell (k := 2) rfl
  have m3 := MN.out.cell (k := 3) rfl
  have z0 := XN.out.cell (k := 0) rfl
  have z1 := XN.out.cell (k := 1) rfl
  have z2 := XN.out.cell (k := 2) rfl
  have z3 := XN.out.cell (k := 3) rfl
  have y0 := XN.out.frozen 0
  have y1 := XN.out.frozen 1
  have y2 := XN.out.frozen 2
  have y3 := XN.out.frozen 3
  go_wp2_with fail
  obtain ⟨q1, q2⟩ := box_set4 (v0 := .int .i64 x.kind) (v1 := .int .i64 x.num) (v2 := .int .i64 (x.at_ : Int)) (v3 := .string (txt x.text)) XN.out
  have H3 := RN.out.keepS q2 (fun j hj => by have := HLT.out; omega)
  have K3 := KN.out.newer (q2.mono (fun j hj => by omega))
  clear z0 z1 z2 z3 y0 y1 y2 y3 m0 m1 m2 m3
  generalize (((((Z.setCell ⟨b, 2, none⟩ (.int .i64 ((n : Int) + 1))).setCell ⟨w.heap.size, 0, none⟩ (.int .i64 x.kind)).setCell ⟨w.heap.size, 1, none⟩ (.int .i64 x.num)).setCell ⟨w.heap.size, 2, none⟩ (.int .i64 (x.at_ : Int))).setCell ⟨w.heap.size, 3, none⟩ (.string (txt x.text))) = V at *
  have c0 := q1.cell (k := 0) rfl
  have c1 := q1.cell (k := 1) rfl
  have c2 := q1.cell (k := 2) rfl
  have c3 := q1.cell (k := 3) rfl
  exact bodyPost_ret (v := tokVal x) (by simp [results, Tryd.results40, go_sem, c0, c1, c2, c3]) rfl ⟨rfl, H3, K3⟩
end Go.Proofs.YtcaibahniheohaaDoor.Words

/- Registers' names as plain data. Nothing here speaks of one program text. -/
namespace Go.Proofs.YtcaibahniheohaaDoor.Words
set_option maxRecDepth 100000
open Go.RowKit Go.Shelf Go.Lib
set_option linter.unusedVariables false
def regN (d : Int) : List UInt8 := 114 :: digs 10 false d.toNat
theorem regN_all : ((List.range 16).all fun d => decide (regZ (regN (d : Int)) = some (d : Int))) = true := by decide +kernel
theorem regN_reg {d : Int} (h : 0 ≤ d ∧ d ≤ 15) : regZ (regN d) = some d := by
 have := List.all_eq_true.1 regN_all d.toNat (List.mem_range.2 (by omega))
 rw [decide_eq_true_eq, show ((d.toNat : Nat) : Int) = d by omega] at this
 exact this
def regS (n : Int) : List UInt8 := 114 :: decN n
theorem decN_pos {n : Int} (h : 0 ≤ n) : decN n = digs 10 false n.toNat := by
 unfold decN
 rw [if_neg (by omega), show n.natAbs = n.toNat by omega]
theorem regS_eq {n : Int} (h : 0 ≤ n ∧ n ≤ 15) : regS n = regN n := by unfold regS regN; rw [decN_pos h.1]
end Go.Proofs.YtcaibahniheohaaDoor.Words

/- A law of no one program: A REGION THAT DRAWS ITS ORDER, WALKED ALONG A TREE OF ORDERS ('Lin' with forks): where two operations that turn the world may come up in either order, the tree parts. What holds behind the region (R) is named ahead: the rest is walked once. -/
namespace Go.Proofs.YtcaibahniheohaaDoor.Words
set_option maxRecDepth 100000
open Go.RowKit
inductive LinT | nil | one (i : Nat) (b : Bool) (r : LinT) | two (i j : Nat) (r s : LinT)
inductive LinO | nil | one (o : Option Oper) (b : Bool) (r : LinO) | two (o o' : Option Oper) (r s : LinO)
def LinT.look (ops : Array Oper) : LinT → LinO
 | .nil => .nil
 | .one i b r => .one ops[i]? b (r.look ops)
 | .two i j r s => .two ops[i]? ops[j]? (r.look ops) (s.look ops)
def LinT.size : LinT → Nat
 | .nil => 0
 | .one _ _ r => r.size + 1
 | .two _ _ r _ => r.size + 1
def LinT.ok (md : Region.Mode) (ops : Array Oper) : LinT → Array Bool → Bool
 | .nil, listed => (Region.ready md ops listed).isEmpty
 | .one i true r, listed => (Region.ready md ops listed).contains i && Region.free md ops listed i && r.ok md ops (listed.setIfInBounds i true)
 | .one i false r, listed => (Region.ready md ops listed == [i]) && r.ok md ops (listed.setIfInBounds i true)
 | .two i j r s, listed => (Region.ready md ops listed == [i, j]) && r.size == s.size && r.ok md ops (listed.setIfInBounds i true) && s.ok md ops (listed.setIfInBounds j true)
def LinT.of : List (Nat × Bool) → LinT → LinT
 | [], t => t
 | (i, b) :: l, t => .one i b (LinT.of l t)
section
variable {P : Program} {ops : Array Oper} {Q : Exit → Act → World → Prop} {R : Act → World → Prop} {md : Region.Mode}
def wpT (P : Program) (ops : Array Oper) (Q : Exit → Act → World → Prop) (R : Act → World → Prop) : LinO → (World → Prop) → Act → World → Prop
 | .nil, _, a, w => R a w
 | .one (some o) true rest, S, a, w => ∃ S' : World → Prop, (∀ x, S' x → S x) ∧ S' w ∧ ∃ v, YieldsIf P ops S' o v a ∧ wpT P ops Q R rest S' (a.put o.dst v) w
 | .one (some o) false rest, S, a, w => ∃ S' : World → Prop, (∀ x, S' x → S x) ∧ S' w ∧ linStep P ops Q o (fun a' w' => S' w' ∧ wpT P ops Q R rest S' a' w') a w
 | .two (some o) (some o') r s, S, a, w => ∃ S' : World → Prop, (∀ x, S' x → S x) ∧ S' w ∧ linStep P ops Q o (fun a' w' => S' w' ∧ wpT P ops Q R r S' a' w') a w ∧ linStep P ops Q o' (fun a' w' => S' w' ∧ wpT P ops Q R s S' a' w') a w
 | .one none _ _, _, _, _ => False
 | .two none _ _ _, _, _, _ => False
 | .two (some _) none _ _, _, _, _ => False
theorem step_any {i : Nat} {o : Oper} {fuel : Nat} {listed : Array Bool} {S' : World → Prop} {K : Act → World → Prop} {a : Act} {w : World} (ho : ops[i]? = some o)
  (hK : ∀ a w, K a w → wpAnyH P md ops Q S' fuel (listed.setIfInBounds i true) a w)
  (h : linStep P ops Q o (fun a' w' => S' w' ∧ K a' w') a w) : wpOp P ops Q i (fun a' w' => S' w' ∧ wpAnyH P md ops Q S' fuel (listed.setIfInBounds i true) a' w') a w := by
 unfold wpOp
 simp only [ho]
 unfold linStep at h
 split at h
 ·rename_i hw
  rw [if_pos hw]
  exact .inl (Oper.wp_mono (fun a' w' hk => ⟨hk.1, hK a' w' hk.2⟩) h)
 ·rename_i hw
  rw [if_neg hw]
  exact ⟨h.1, hK _ _ h.2⟩
theorem held_tree (hs : Region.noSelect ops = true) (hQ : ∀ d v c a w, Q (.panic c) (a.put d v) w → Q (.panic c) a w) (hR : ∀ a w, R a w → Q .normal a w) :
  ∀ (t : LinT) (listed : Array Bool) (S : World → Prop) (a : Act) (w : World), t.ok md ops listed = true → wpT P ops Q R (t.look ops) S a w → wpAnyH P md ops Q S t.size listed a w
 | .nil, listed, S, a, w, hok, h => ⟨by simpa [LinT.ok] using hok, hR _ _ h⟩
 | .one i true rest, listed, S, a, w, hok, h => by
  simp only [LinT.ok, Bool.and_eq_true] at hok
  obtain ⟨⟨h1, h2⟩, h3⟩ := hok
  rcases ho : ops[i]? with _ | o
  ·simp only [LinT.look, ho, wpT] at h
  ·simp only [LinT.look, ho, wpT] at h
   obtain ⟨S', k1, k2, v, k3, k4⟩ := h
   exact held_weaken k1 _ _ _ _ (wpAnyH_take ho hs h2 h1 (hQ _ _) k3 k2 (held_tree hs hQ hR rest _ S' _ w h3 k4))
 | .one i false rest, listed, S, a, w, hok, h => by
  simp only [LinT.ok, Bool.and_eq_true, beq_iff_eq] at hok
  obtain ⟨h1, h3⟩ := hok
  rcases ho : ops[i]? with _ | o
  ·simp only [LinT.look, ho, wpT] at h
  ·simp only [LinT.look, ho, wpT] at h
   obtain ⟨S', k1, k2, k3⟩ := h
   refine held_weaken k1 _ _ _ _ (wpAnyH_all h1 (by simp) fun j hj => ?_)
   have hji : j = i := by simpa using hj
   subst hji
   exact step_any ho (fun a w hk => held_tree hs hQ hR rest _ S' a w h3 hk) k3
 | .two i j r s, listed, S, a, w, hok, h => by
  simp only [LinT.ok, Bool.and_eq_true, beq_iff_eq] at hok
  obtain ⟨⟨⟨h1, h2⟩, h3⟩, h4⟩ := hok
  rcases ho : ops[i]? with _ | o
  ·simp only [LinT.look, ho, wpT] at h
  ·rcases ho' : ops[j]? with _ | o'
   ·simp only [LinT.look, ho, ho', wpT] at h
   ·simp only [LinT.look, ho, ho', wpT] at h
    obtain ⟨S', k1, k2, k3, k4⟩ := h
    refine held_weaken k1 _ _ _ _ (wpAnyH_all h1 (by simp) fun k hk => ?_)
    have hki : k = i ∨ k = j := by simpa using hk
    rcases hki with rfl | rfl
    ·exact step_any ho (fun a w hk => held_tree hs hQ hR r _ S' a w h3 hk) k3
    ·exact step_any ho' (fun a w hk => (show wpAnyH P md ops Q S' r.size _ a w by rw [h2]; exact held_tree hs hQ hR s _ S' a w h4 hk)) k4
theorem wp_region_tree {id : Nat} {a : Act} {w : World} (R : Act → World → Prop) (t : LinT) (hm : P.follows .mixedOrders = true) (hs : Region.noSelect ops = true) (hl : t.size = ops.size)
  (hok : t.ok .any ops (Array.replicate ops.size false) = true) (S : World → Prop) (hR : ∀ a w, R a w → Q .normal a w)
  (h : wpT P ops (NoPanic Q) R (t.look ops) S a w.drew) : (Code.region id ops true).wp P Q a w := by
 refine wp_region_noPanic (wp_region_held hm (S := S) ?_)
 have hh := held_tree (Q := NoPanic Q) hs (fun _ _ _ _ _ h => h) hR t _ S a w.drew hok h
 rw [hl] at hh
 exact hh
theorem tree_take {o : Oper} {rest : LinO} {S : World → Prop} {a : Act} {w : World} {v : Value} (hS : S w)
  (hw : Region.wanted o (yielded ops a.tmps) = true) (hy : ∀ x, S x → (execOp a.eval o).run P x = .ok (.value v) x)
  (h : wpT P ops Q R rest S (a.put o.dst v) w) : wpT P ops Q R (.one (some o) true rest) S a w := ⟨S, fun _ h => h, hS, v, .inl ⟨hw, hy⟩, h⟩
theorem tree_call {o : Oper} {rest : LinO} {S : World → Prop} {a : Act} {w : World} (hS : S w) (hw : Region.wanted o (yielded ops a.tmps) = true)
  (h : ∀ K : Act → World → Prop, Shut (∀ a w, S w → (S w → wpT P ops Q R rest S a w) → K a w) → Oper.wp P o a w K Q) : wpT P ops Q R (.one (some o) false rest) S a w :=
 ⟨S, fun _ h => h, hS, by unfold linStep; rw [if_pos hw]; exact h _ (fun _ _ h1 h2 => ⟨h1, h2 h1⟩)⟩
theorem tree_two {o o' : Oper} {r s : LinO} {S : World → Prop} {a : Act} {w : World} (hS : S w) (hw : Region.wanted o (yielded ops a.tmps) = true) (hw' : Region.wanted o' (yielded ops a.tmps) = true)
  (h : ∀ K : Act → World → Prop, Shut (∀ a w, S w → (S w → wpT P ops Q R r S a w) → K a w) → Oper.wp P o a w K Q)
  (h' : ∀ K : Act → World → Prop, Shut (∀ a w, S w → (S w → wpT P ops Q R s S a w) → K a w) → Oper.wp P o' a w K Q) : wpT P ops Q R (.two (some o) (some o') r s) S a w :=
 ⟨S, fun _ h => h, hS, by unfold linStep; rw [if_pos hw]; exact h _ (fun _ _ h1 h2 => ⟨h1, h2 h1⟩), by unfold linStep; rw [if_pos hw']; exact h' _ (fun _ _ h1 h2 => ⟨h1, h2 h1⟩)⟩
theorem tree_done {S : World → Prop} {a : Act} {w : World} (h : R a w) : wpT P ops Q R .nil S a w := h
end
end Go.Proofs.YtcaibahniheohaaDoor.Words

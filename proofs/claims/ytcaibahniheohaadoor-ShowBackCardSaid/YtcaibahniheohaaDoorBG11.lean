/- Several texts in one: PtMath, Pts, Points, PtNum, SplMath, RefSplitB, RefSplitBad, RefSplitBlank. -/
import Derived.Test.YtcaibahniheohaaDoorBG00
import Derived.Lib.TrimAscii
import Derived.Test.YtcaibahniheohaaDoorBG02
import Derived.Test.YtcaibahniheohaaDoorBG01

/- The runes of a text, one behind the other, with their places: plain mathematics. -/
namespace Go.Proofs.YtcaibahniheohaaDoor.Words
set_option maxRecDepth 100000
set_option linter.unusedVariables false
open Go.Lib
structure Pt where
 r : Int
 at_ : Nat
 end_ : Nat
 ok : Bool
def ptAt (l : List UInt8) (p : Nat) : Pt := ⟨runeR (l.drop p), p, p + wideR (l.drop p), !badR (l.drop p)⟩
def ptF (l : List UInt8) : Nat → Nat → List Pt
 | 0, p => []
 | f + 1, p => if p < l.length then ptAt l p :: ptF l f (p + wideR (l.drop p)) else []
def ptZ (l : List UInt8) : List Pt := ptF l l.length 0
theorem ptF_len (l : List UInt8) : ∀ f p, p ≤ l.length → (ptF l f p).length ≤ l.length - p
 | 0, p, h => by simp [ptF]
 | f + 1, p, h => by
  unfold ptF
  split
  ·rename_i hp
   have h1 := ptF_len l f _ (wide_in hp)
   have h2 := wideR_pos (l.drop p)
   have h3 := wide_in hp
   rw [List.length_cons]
   omega
  ·simp
theorem ptZ_len (l : List UInt8) : (ptZ l).length ≤ l.length := ptF_len l _ 0 (Nat.zero_le _)
structure At (l : List UInt8) (L : List Pt) (i p f : Nat) : Prop where
 rest : L.drop i = ptF l f p
 fuel : l.length ≤ p + f
 le : p ≤ l.length
 prev : 0 < i → ∃ q, L[i - 1]? = some q ∧ q.end_ = p
theorem At.start (l : List UInt8) : At l (ptZ l) 0 0 l.length := ⟨rfl, by omega, by omega, fun h => by omega⟩
theorem At.stop {l : List UInt8} {L : List Pt} {i p f : Nat} (h : At l L i p f) (hi : ¬ i < L.length) : ¬ p < l.length := by
 intro hp
 have h1 := h.rest
 have h2 := h.fuel
 obtain ⟨g, rfl⟩ : ∃ g, f = g + 1 := ⟨f - 1, by omega⟩
 rw [List.drop_eq_nil_of_le (by omega)] at h1
 unfold ptF at h1
 rw [if_pos hp] at h1
 cases h1
theorem At.step {l : List UInt8} {L : List Pt} {i p f : Nat} (h : At l L i p f) (hi : i < L.length) : ∃ g, f = g + 1 ∧ p < l.length ∧ L[i]? = some (ptAt l p) ∧ At l L (i + 1) (p + wideR (l.drop p)) g := by
 have h1 := h.rest
 have h2 := h.fuel
 have hne : ptF l f p ≠ [] := fun e => by rw [e] at h1; have := congrArg List.length h1; simp at this; omega
 cases f with
 | zero => exact absurd rfl hne
 | succ g =>
  by_cases hp : p < l.length
  ·have h3 : ptF l (g + 1) p = ptAt l p :: ptF l g (p + wideR (l.drop p)) := by
    conv => lhs; unfold ptF
    rw [if_pos hp]
   rw [h3] at h1
   have h4 : L[i]? = some (ptAt l p) := by
    have := congrArg (fun t => t[0]?) h1
    simpa [List.getElem?_drop] using this
   have h5 : L.drop (i + 1) = ptF l g (p + wideR (l.drop p)) := by
    have := congrArg List.tail h1
    simpa [List.tail_drop] using this
   have hw := wideR_pos (l.drop p)
   exact ⟨g, rfl, hp, h4, ⟨h5, by omega, wide_in hp, fun _ => ⟨ptAt l p, h4, rfl⟩⟩⟩
  ·exact absurd (by unfold ptF; rw [if_neg hp]) hne
theorem At.lt {l : List UInt8} {L : List Pt} {i p f : Nat} (h : At l L i p f) : i < L.length ↔ p < l.length := by
 constructor
 ·intro hi; obtain ⟨g, _, hp, _⟩ := h.step hi; exact hp
 ·intro hp
  by_cases hi : i < L.length
  ·exact hi
  ·exact absurd hp (h.stop hi)
/-! ### Runes and bytes -/
theorem enc_wide {l : List UInt8} (hne : l ≠ []) (hb : badR l = false) : (encodeRune (runeR l)).length = wideR l := by
 have hb' : ¬ ((decodeL l).1 = 65533 ∧ (decodeL l).2 = 1) := by
  unfold badR runeR wideR at hb
  have := of_decide_eq_false hb
  omega
 unfold runeR wideR
 rw [encode_decode l hne hb', List.length_take]
 have := decodeL_le l hne
 omega
theorem ok_rune {l : List UInt8} (hne : l ≠ []) : (decide (runeR l ≠ 65533) || (decide (3 ≤ l.length) && decide (l.take 3 = [239, 191, 189]))) = !badR l := by
 by_cases hr : runeR l = 65533
 ·rw [decide_eq_false (by omega), Bool.false_or]
  cases hb : badR l
  ·have h1 := enc_wide hne hb
   have hb' : ¬ ((decodeL l).1 = 65533 ∧ (decodeL l).2 = 1) := by
    unfold badR runeR wideR at hb
    have := of_decide_eq_false hb
    omega
   have h2 := encode_decode l hne hb'
   rw [show ((decodeL l).1 : Int) = 65533 from hr] at h2
   rw [hr] at h1
   have h3 : encodeRune 65533 = [239, 191, 189] := by decide
   have h4 : (decodeL l).2 = 3 := by rw [h3] at h1; exact h1.symm
   have h5 := decodeL_le l hne
   rw [h3, h4] at h2
   rw [decide_eq_true (by omega), decide_eq_true h2.symm]; rfl
  ·have hn : ¬ (3 ≤ l.length ∧ l.take 3 = [239, 191, 189]) := by
    rintro ⟨h1, h2⟩
    have h3 : l = 239 :: 191 :: 189 :: l.drop 3 := by
     conv => lhs; rw [← List.take_append_drop 3 l, h2]
     rfl
    have h4 : (decodeL (239 :: 191 :: 189 :: l.drop 3)).2 = 3 := by
     rw [decodeL_N]
     have : 3 ≤ (239 :: 191 :: 189 :: l.drop 3 : List UInt8).length := by simp
     generalize (239 :: 191 :: 189 :: l.drop 3 : List UInt8).length = n at *
     simp only [List.getD_cons_zero, List.getD_cons_succ]
     obtain ⟨m, rfl⟩ : ∃ m, n = m + 3 := ⟨n - 3, by omega⟩
     unfold decodeN
     simp
    unfold badR at hb
    have h5 := of_decide_eq_true hb
    unfold wideR at h5
    rw [h3] at h5
    omega
   cases h1 : decide (3 ≤ l.length)
   ·rfl
   ·rw [decide_eq_false (fun h2 => hn ⟨of_decide_eq_true h1, h2⟩)]; rfl
 ·rw [decide_eq_true (by omega), Bool.true_or]
  unfold badR
  rw [decide_eq_false (fun h => hr h.1)]; rfl
theorem ascii_rune {l : List UInt8} (hne : l ≠ []) (h : runeR l < 128) : ∃ c t, l = c :: t ∧ (c.toNat : Int) = runeR l ∧ wideR l = 1 := by
 cases l with
 | nil => exact absurd rfl hne
 | cons c t =>
  by_cases hc : c.toNat < 128
  ·unfold runeR wideR
   rw [decodeL_ascii c t hc]
   exact ⟨c, t, rfl, rfl, rfl⟩
  ·exfalso
   have hb : badR (c :: t) = false := by unfold badR; exact decide_eq_false (by omega)
   have hb' : ¬ ((decodeL (c :: t)).1 = 65533 ∧ (decodeL (c :: t)).2 = 1) := by
    unfold badR runeR wideR at hb
    have := of_decide_eq_false hb
    omega
   have h2 := encode_decode (c :: t) hne hb'
   have hpos := wideR_pos (c :: t)
   unfold wideR at hpos
   obtain ⟨m, hm⟩ : ∃ m, (decodeL (c :: t)).2 = m + 1 := ⟨(decodeL (c :: t)).2 - 1, by omega⟩
   rw [hm, List.take_succ_cons] at h2
   have hr := runeR_range (c :: t)
   obtain ⟨n, hn⟩ : ∃ n : Nat, runeR (c :: t) = n := ⟨(runeR (c :: t)).toNat, by omega⟩
   have hn' : ((decodeL (c :: t)).1 : Int) = n := hn
   rw [hn'] at h2
   have hlt : n < 128 := by omega
   have h3 : ((List.range 128).all fun n => decide ((encodeRune (n : Int)).head? = some (UInt8.ofNat n))) = true := by decide +kernel
   have h4 := of_decide_eq_true (List.all_eq_true.1 h3 n (List.mem_range.2 hlt))
   rw [h2] at h4
   simp only [List.head?_cons, Option.some.injEq] at h4
   rw [h4] at hc
   simp at hc
   omega
end Go.Proofs.YtcaibahniheohaaDoor.Words

/- Runes as cells; contracts of the document's own letter, digit, hex. -/
namespace Go.Proofs.YtcaibahniheohaaDoor.Words
set_option maxRecDepth 100000
open Go.RowKit Go.Shelf Go.Lib
set_option linter.unusedVariables false
theorem enc_size {r : Int} (h : 0 ≤ r ∧ r ≤ 1114111) : (Utf8.encode r).size = (encodeRune r).length := by
 obtain ⟨n, rfl⟩ := Int.eq_ofNat_of_zero_le h.1
 unfold Utf8.encode encodeRune
 rw [List.length_map]
 by_cases h1 : (n : Int) ≤ 127
 ·rw [encodeRuneZ_one h.1 h1]
  have hv : Utf8.valid n = true := by unfold Utf8.valid; simp; omega
  simp only [hv, if_true, Int.toNat_natCast, if_pos (show n < 128 by omega)]
  rfl
 ·by_cases h2 : (n : Int) ≤ 2047
  ·rw [encodeRuneZ_two (by omega) h2]
   have hv : Utf8.valid n = true := by unfold Utf8.valid; simp; omega
   simp only [hv, if_true, Int.toNat_natCast, if_neg (show ¬ n < 128 by omega), if_pos (show n < 2048 by omega)]
   rfl
  ·by_cases h3 : (2048 ≤ (n : Int) ∧ (n : Int) < 55296) ∨ (57343 < (n : Int) ∧ (n : Int) ≤ 65535)
   ·rw [encodeRuneZ_three h3]
    have hv : Utf8.valid n = true := by unfold Utf8.valid; simp; omega
    simp only [hv, if_true, Int.toNat_natCast, if_neg (show ¬ n < 128 by omega), if_neg (show ¬ n < 2048 by omega), if_pos (show n < 65536 by omega)]
    rfl
   ·by_cases h4 : 65536 ≤ (n : Int)
    ·rw [encodeRuneZ_four h4 h.2]
     have hv : Utf8.valid n = true := by unfold Utf8.valid; simp; omega
     simp only [hv, if_true, Int.toNat_natCast, if_neg (show ¬ n < 128 by omega), if_neg (show ¬ n < 2048 by omega), if_neg (show ¬ n < 65536 by omega)]
     rfl
    ·rw [encodeRuneZ_bad (by omega)]
     have hv : Utf8.valid n = false := by unfold Utf8.valid; simp; omega
     simp [hv, Utf8.runeError]
     rfl
def ptL (q : Pt) : List Value := [.int .i32 q.r, .int .i64 (q.at_ : Int), .int .i64 (q.end_ : Int), .bool q.ok]
def ptsL (l : List Pt) : List Value := l.flatMap ptL
theorem ptsL_cons (i : Pt) (l : List Pt) : ptsL (i :: l) = ptL i ++ ptsL l := by simp [ptsL]
theorem ptsL_append (l m : List Pt) : ptsL (l ++ m) = ptsL l ++ ptsL m := by simp [ptsL]
theorem ptsL_at (l : List Pt) (k : Nat) (i : Pt) (h : l[k]? = some i) (j : Nat) (hj : j < 4) : (ptsL l)[k * 4 + j]? = (ptL i)[j]? := by
 induction l generalizing k with
 | nil => simp at h
 | cons x l ih =>
  rw [ptsL_cons]
  cases k with
  | zero =>
   simp at h; subst h
   rw [List.getElem?_append_left (by simp [ptL]; omega), Nat.zero_mul, Nat.zero_add]
  | succ k =>
   simp at h
   have h5 : (ptL x).length = 4 := rfl
   rw [List.getElem?_append_right (by omega), h5, show (k + 1) * 4 + j - 4 = k * 4 + j by omega]
   exact ih k h
theorem Row.pt {w : World} {B n c : Nat} {b off : Nat} {l : List Pt} (h : Row w B 4 (.slice (some ⟨b, off, none⟩) n c) n (ptsL l)) {k : Nat} {i : Pt} (hi : l[k]? = some i) :
  w.cell? ⟨b, off + k * 4, none⟩ = some (.int .i32 i.r) ∧ w.cell? ⟨b, off + k * 4 + 1, none⟩ = some (.int .i64 (i.at_ : Int)) ∧ w.cell? ⟨b, off + k * 4 + 2, none⟩ = some (.int .i64 (i.end_ : Int)) ∧ w.cell? ⟨b, off + k * 4 + 3, none⟩ = some (.bool i.ok) := by
 have g : ∀ j u, j < 4 → (ptL i)[j]? = some u → w.cell? ⟨b, off + k * 4 + j, none⟩ = some u := by
  intro j u hj hu
  have := h.cells ⟨b, off, none⟩ rfl (k * 4 + j) u ((ptsL_at l k i hi j hj).trans hu)
  rwa [add_spot, ← Nat.add_assoc] at this
 exact ⟨g 0 _ (by omega) rfl, g 1 _ (by omega) rfl, g 2 _ (by omega) rfl, g 3 _ (by omega) rfl⟩
theorem info_pt : (Tryd.prog.info? 88).map (fun i => (i.zero, i.size, i.bytes)) = some (some (.agg #[.int .i32 0, .int .i64 0, .int .i64 0, .bool false]), 4, 32) := by kernel_rfl
def TabsL (w : World) : Prop := Lib.TabIs Tryd.prog w "unicode.properties" .u8 Lib.propertiesTab ∧ RVar 1 letterT w
theorem TabsL.below {w w' : World} (h : TabsL w) (hb : Below w.heap.size w w') : TabsL w' :=
 ⟨TabIs_below (g := 0) (by kernel_rfl) h.1 hb, RVar_below h.2 hb⟩
def TabsLB (B : Nat) (w : World) : Prop := ∀ x, Below B w x → TabsL x
theorem TabsL.all {w : World} (h : TabsL w) : TabsLB w.heap.size w := fun x hx => h.below hx
theorem isLetterL_any (r : Int) (w : World) (hr : -2147483648 ≤ r ∧ r ≤ 2147483647) (hT : TabsL w) :
  Calls Tryd.prog 66 #[.int .i32 r] w fun e w' => e = .returned (.bool (isLetterU r)) ∧ Below w.heap.size w w' :=
 Tryd.unicode_IsLetter_all r w hr.1 hr.2 hT.1 hT.2
theorem refLetter_any (r : Int) (w : World) (hr : -2147483648 ≤ r ∧ r ≤ 2147483647) (hT : TabsL w) :
  Calls Tryd.prog 35 #[.int .i32 r] w fun e w' => e = .returned (.bool (firstR r)) ∧ Below w.heap.size w w' := by
 have cL := isLetterL_any r w hr hT
 have HF := Lib.hid (show firstR r = (isLetterU r || decide (r = 95)) from rfl)
 clear hT
 by_cases h : r = 95
 ·have k : (r == 95) = true := by simpa using h
  have HR : Hid (firstR r = true) := by show _ = _; rw [HF.out, decide_eq_true h, Bool.or_true]
  clear h cL
  go_enter Tryd.func35, Tryd.ntmps35
  go_wp2_with fail
  go_ret
  exact ⟨ret_bool HR.out.symm, Below.refl _ _⟩
 ·have k : (r == 95) = false := by simpa using h
  have HR : Hid (firstR r = isLetterU r) := by show _ = _; rw [HF.out, decide_eq_false h, Bool.or_false]
  clear h
  go_enter Tryd.func35, Tryd.ntmps35
  go_wp2_with (go_at_call 66; refine cL.mono ?_; rintro e w1 ⟨rfl, hb⟩)
  go_ret
  exact ⟨ret_bool HR.out.symm, hb⟩
theorem refDigit_any (r : Int) (w : World) (hr : -2147483648 ≤ r ∧ r ≤ 2147483647) : Calls Tryd.prog 36 #[.int .i32 r] w fun e w' => e = .returned (.bool (decide (digR r < 10))) ∧ w = w' := by
 have hz : decide (digR r < 10) = (decide (48 ≤ r) && decide (r ≤ 57)) := by
  rw [Bool.eq_iff_iff]
  simp only [decide_eq_true_eq, Bool.and_eq_true]
  unfold digR
  repeat' split
  all_goals omega
 have HZ := Lib.hid hz
 obtain ⟨r0, r1⟩ := hr
 clear hz
 by_cases h1 : 48 ≤ r
 ·have q : decide (48 ≤ r) = true := decide_eq_true h1
  go_enter Tryd.func36, Tryd.ntmps36
  go_wp2_with fail
  go_ret
  exact ⟨ret_bool (by rw [HZ.out, q]; rfl), rfl⟩
 ·have q : decide (48 ≤ r) = false := decide_eq_false h1
  go_enter Tryd.func36, Tryd.ntmps36
  go_wp2_with fail
  go_ret
  exact ⟨ret_bool (by rw [HZ.out, q]; rfl), rfl⟩
def hexG (r : Int) : Int := if digR r = 16 then -1 else digR r
theorem hexG_range (r : Int) : -1 ≤ hexG r ∧ hexG r ≤ 15 := by have := digR_range r; unfold hexG; split <;> omega
set_option maxHeartbeats 1000000 in
theorem refHex_any (r : Int) (w : World) (hr : -2147483648 ≤ r ∧ r ≤ 2147483647) : Calls Tryd.prog 37 #[.int .i32 r] w fun e w' => e = .returned (.int .i64 (hexG r)) ∧ w = w' := by
 have c := Lib.hid (fun y => refDigit_any r y hr)
 have HG := Lib.hid (show hexG r = if digR r = 16 then -1 else digR r from rfl)
 have HD := Lib.hid (show digR r = if 48 ≤ r ∧ r ≤ 57 then r - 48 else if 97 ≤ r ∧ r ≤ 102 then r - 97 + 10 else if 65 ≤ r ∧ r ≤ 70 then r - 65 + 10 else 16 from rfl)
 obtain ⟨r0, r1⟩ := hr
 cases hd : decide (digR r < 10)
 ·rw [hd] at c
  have hd' := Lib.hid (of_decide_eq_false hd)
  clear hd
  go_enter Tryd.func37, Tryd.ntmps37
  go_wp2_with (go_at_call 36; refine (c.out _).mono ?_; rintro e w9 ⟨rfl, rfl⟩)
  all_goals first
   | (exfalso; omega)
   | (go_ret; refine ⟨ret_int ?_, rfl⟩; have h1 := hd'.out; rw [HG.out, HD.out]; rw [HD.out] at h1; repeat' split; all_goals (repeat' split at h1); all_goals omega)
 ·rw [hd] at c
  have hd' := Lib.hid (of_decide_eq_true hd)
  have hr2 : 48 ≤ r ∧ r ≤ 57 := by have h1 := hd'.out; rw [HD.out] at h1; repeat' split at h1; all_goals omega
  obtain ⟨r2, r3⟩ := hr2
  clear hd
  go_enter Tryd.func37, Tryd.ntmps37
  go_wp2_with (go_at_call 36; refine (c.out _).mono ?_; rintro e w9 ⟨rfl, rfl⟩)
  go_ret
  refine ⟨ret_int ?_, rfl⟩
  have hdr : digR r = r - 48 := by rw [HD.out, if_pos ⟨r2, r3⟩]
  rw [HG.out, hdr, if_neg (by omega)]
end Go.Proofs.YtcaibahniheohaaDoor.Words

/- Contract of the document's own points: a text's runes. -/
namespace Go.Proofs.YtcaibahniheohaaDoor.Words
set_option maxRecDepth 100000
open Go.RowKit Go.Shelf Go.Lib
set_option linter.unusedVariables false
theorem cut_list (s : ByteArray) (p n : Nat) : (s.extract p (p + n)).toList = (s.data.toList.drop p).take n := by rw [txt_cut, show (txt ((s.data.toList.drop p).take n)).toList = (s.data.toList.drop p).take n from by rw [Lib.toList_data]]
set_option maxHeartbeats 2000000 in
theorem points_any (s : ByteArray) (w : World) (hs : s.size ≤ 1000000) :
  Calls Tryd.prog 34 #[.string s] w fun e w' => ∃ v, e = .returned v ∧ w'.ownsRow w.heap.size 88 4 v (ptZ s.data.toList).length (ptsL (ptZ s.data.toList)) ∧ Below w.heap.size w w' := by
 have HL := Lib.hid (data_len s)
 have HPL := Lib.hid (ptZ_len s.data.toList)
 obtain ⟨l, hl⟩ : ∃ l, l = s.data.toList := ⟨_, rfl⟩
 rw [← hl] at HL HPL ⊢
 have HS := Lib.hid hl
 obtain ⟨Z, hZ⟩ : ∃ Z, Z = ptZ l := ⟨_, rfl⟩
 rw [← hZ] at HPL ⊢
 have HZ : Hid (Z = ptF l l.length 0) := hZ
 clear hZ hl
 go_enter Tryd.func34, Tryd.ntmps34
 go_wp2
 go_loopw [3] (fun q wr => ∃ (pos fuel : Nat) (L : List Pt), wr.ownsRow (w.heap.size + 1) 88 4 q L.length (ptsL L) ∧ wr.heap[w.heap.size]? = some (.stringIter s pos) ∧ Below w.heap.size w wr ∧ L ++ ptF l fuel pos = Z ∧ l.length ≤ pos + fuel ∧ pos ≤ l.length) (fun _ wr => s.size - wr.iterPos w.heap.size)
 case atStart =>
  exact ⟨0, l.length, [], World.ownsRow_nil _ _ _ _, World.iter_heap w s 0, (Below.refl _ w).alloc (Nat.le_refl _) _, HZ.out.symm, by omega, Nat.zero_le _⟩
 case round =>
  obtain ⟨pos, fuel, L, ho, hit, hbw, hn, hf, hp⟩ := hrel
  obtain ⟨A, c, rfl⟩ := (Row.of_own ho).form
  have HIT := Lib.hid hit
  have HN := Lib.hid hn
  have hsz : w.heap.size < wr.heap.size := (Array.getElem?_eq_some_iff.1 hit).1
  have hll := HL.out
  by_cases hlt : pos < s.size
  ·have hnx := fun ty => next_rune (P := Tryd.prog) hit hlt ty
   rw [← HS.out] at hnx
   obtain ⟨f, rfl⟩ : ∃ f, fuel = f + 1 := ⟨fuel - 1, by omega⟩
   have hRr := runeR_range (l.drop pos)
   have hWP := wideR_pos (l.drop pos)
   have hWI := wide_in (l := l) (p := pos) (by omega)
   have hdn : l.drop pos ≠ [] := from_ne (by omega)
   have hok := ok_rune hdn
   have hew := fun h => enc_wide (l := l.drop pos) hdn h
   have hes := enc_size hRr
   have hLl : L.length < 1000000 := by
    have h1 := HPL.out
    rw [← hn] at h1
    unfold ptF at h1
    rw [if_pos (by omega), List.length_append, List.length_cons] at h1
    omega
   have HST : Hid (ptF l (f + 1) pos = ⟨runeR (l.drop pos), pos, pos + wideR (l.drop pos), !badR (l.drop pos)⟩ :: ptF l f (pos + wideR (l.drop pos))) := by
    show _ = _
    conv => lhs; unfold ptF
    rw [if_pos (by omega)]; rfl
   have hbr : badR (l.drop pos) = true → runeR (l.drop pos) = 65533 ∧ wideR (l.drop pos) = 1 := fun h => of_decide_eq_true h
   have hcut := cut_list s pos 3
   rw [← HS.out] at hcut
   have hlen3 : (3 ≤ (l.drop pos).length) ↔ pos + 3 ≤ s.size := by rw [List.length_drop]; omega
   generalize hRR : runeR (l.drop pos) = R at *
   generalize wideR (l.drop pos) = WD at *
   generalize badR (l.drop pos) = BD at *
   have hit2 := Lib.iterAt_heap wr w.heap.size s pos (pos + WD) hit
   have HIT2 := Lib.hid hit2
   have hbw2 := Lib.below_iterAt hbw (k := w.heap.size) (Nat.le_refl _) s (pos + WD)
   have HBW2 := Lib.hid hbw2
   have hsz2 : (wr.iterAt w.heap.size s (pos + WD)).heap.size = wr.heap.size := Lib.iterAt_size _ _ _ _
   have HO2 : Hid ((wr.iterAt w.heap.size s (pos + WD)).ownsRow (w.heap.size + 1) 88 4 _ L.length (ptsL L)) := own_grown ho (iterAt_grown _ _ _ _) (fun g hg e => by have := (ho.lt g hg).1; injection e with e; omega)
   have HSZ2 := Lib.hid hsz2
   have HP := Lib.hid hp
   have HF := Lib.hid hf
   have hp' : (pos : Int) + WD ≤ 1000000 := by omega
   have hp3 : (pos : Int) ≤ 1000000 := by omega
   have hw0 : (1 : Int) ≤ WD := by omega
   have hsm : (s.size : Int) ≤ 1000000 := by omega
   obtain ⟨i0, hi, hz0, hz1, hz2⟩ := info_parts info_pt
   have HI := Lib.hid hz2
   obtain ⟨r0, r1⟩ := hRr
   clear hit hn hit2 hbw2 hsz2 hbw hdn hRR ho hp hf hz2
   by_cases hR : R = 65533
   ·have q1 : (R != 65533) = false := by simpa using hR
    cases hBD : BD
    ·-- it is written so
     rw [hBD] at hok hew
     rw [decide_eq_false (by omega), Bool.false_or, Bool.not_false, Bool.and_eq_true] at hok
     have h3 := of_decide_eq_true hok.1
     have h4 := of_decide_eq_true hok.2
     have q2 : decide ((pos : Int) + 3 ≤ s.size) = true := decide_eq_true (by have := hlen3.1 h3; omega)
     have q2' : decide (pos + 3 ≤ s.size) = true := decide_eq_true (hlen3.1 h3)
     have q3 : (pos : Int) + 3 ≤ s.size := by have := hlen3.1 h3; omega
     have qn : ((pos : Int) + 3).toNat = pos + 3 := by omega
     have hx : ((s.extract pos (pos + 3)).toList == [239, 191, 189]) = true := by rw [hcut, h4]; rfl
     have hwd : (encodeRune R).length = WD := hew rfl
     have he : ((Utf8.encode R).size : Int) = WD := by rw [hes, hwd]
     clear hok hew hes hwd hcut hlen3 h3 h4 hbr hR
     go_wp2_with (at_builtin; refine wpList_append_row _ rfl (.tmp 36) (.tmp 44) 85 rfl (w.heap.size + 1) 88 i0 (.agg #[.int .i32 0, .int .i64 0, .int .i64 0, .bool false]) 4 32 Tryd.underlying85 hi hz0 hz1 HI.out rfl (by omega) _ L.length (ptsL L) rfl (HO2.out.alloc _) _ (.slice (some ⟨_, 0, none⟩) 1 1) 1 [.int .i32 R, .int .i64 (pos : Int), .int .i64 ((pos : Int) + WD), .bool true] rfl (row_one4 _ _ _ _ _ _) (by simp [Value.oneCell']) (by unfold maxLen; omega) (by omega) (by simp [HSZ2.out]; omega) ?_; intro v3 w3 hO3 hg3; have O3 := Lib.hid hO3; have G3 := Lib.hid hg3; clear hO3 hg3)
     have K3 := Lib.hid ((HBW2.out.alloc (by rw [HSZ2.out]; omega) _).grown G3.out (by simp [HSZ2.out]; omega) (fun k hk => by have := (HO2.out.lt k hk).1; omega))
     have IT3 : Hid (w3.heap[w.heap.size]? = some (.stringIter s (pos + WD))) := ((G3.out.block _ (by simp [HSZ2.out]; omega) (fun e => by have := (HO2.out.lt _ e.symm).1; omega)).trans (((Below.refl _ _).alloc (Nat.le_refl _) _).block _ (by rw [HSZ2.out]; omega))).trans HIT2.out
     go_roundw
     case rel =>
      refine ⟨pos + WD, f, L ++ [⟨R, pos, pos + WD, true⟩], ?_, IT3.out, K3.out, ?_, ?_, ?_⟩
      ·rw [List.length_append, ptsL_append, show ptsL [⟨R, pos, pos + WD, true⟩] = [.int .i32 R, .int .i64 (pos : Int), .int .i64 ((pos : Int) + WD), .bool true] from by simp [ptsL, ptL]]
       exact O3.out
      ·rw [List.append_assoc, ← HN.out, HST.out]
       try rw [hBD]
       rfl
      ·have := HF.out; omega
      ·omega
     case measure =>
      simp only [World.iterPos, IT3.out, HIT.out]
      omega
    ·rw [hBD] at hok hew
     have hw1 := (hbr hBD).2
     subst hw1
     rw [decide_eq_false (by omega), Bool.false_or] at hok
     clear hew hbr
     by_cases h3 : pos + 3 ≤ s.size
     ·have q2 : decide ((pos : Int) + 3 ≤ s.size) = true := decide_eq_true (by omega)
      have q2' : decide (pos + 3 ≤ s.size) = true := decide_eq_true h3
      have q3 : (pos : Int) + 3 ≤ s.size := by omega
      have qn : ((pos : Int) + 3).toNat = pos + 3 := by omega
      have hx : ((s.extract pos (pos + 3)).toList == [239, 191, 189]) = false := by
       rw [hcut]
       rw [decide_eq_true (hlen3.2 h3), Bool.true_and] at hok
       simpa using hok
      clear hok hes hcut hlen3 h3 hR
      go_wp2_with (at_builtin; refine wpList_append_row _ rfl (.tmp 36) (.tmp 44) 85 rfl (w.heap.size + 1) 88 i0 (.agg #[.int .i32 0, .int .i64 0, .int .i64 0, .bool false]) 4 32 Tryd.underlying85 hi hz0 hz1 HI.out rfl (by omega) _ L.length (ptsL L) rfl (HO2.out.alloc _) _ (.slice (some ⟨_, 0, none⟩) 1 1) 1 [.int .i32 R, .int .i64 (pos : Int), .int .i64 ((pos : Int) + 1), .bool false] rfl (row_one4 _ _ _ _ _ _) (by simp [Value.oneCell']) (by unfold maxLen; omega) (by omega) (by simp [HSZ2.out]; omega) ?_; intro v3 w3 hO3 hg3; have O3 := Lib.hid hO3; have G3 := Lib.hid hg3; clear hO3 hg3)
      have K3 := Lib.hid ((HBW2.out.alloc (by rw [HSZ2.out]; omega) _).grown G3.out (by simp [HSZ2.out]; omega) (fun k hk => by have := (HO2.out.lt k hk).1; omega))
      have IT3 : Hid (w3.heap[w.heap.size]? = some (.stringIter s (pos + 1))) := ((G3.out.block _ (by simp [HSZ2.out]; omega) (fun e => by have := (HO2.out.lt _ e.symm).1; omega)).trans (((Below.refl _ _).alloc (Nat.le_refl _) _).block _ (by rw [HSZ2.out]; omega))).trans HIT2.out
      go_roundw
      case rel =>
       refine ⟨pos + 1, f, L ++ [⟨R, pos, pos + 1, false⟩], ?_, IT3.out, K3.out, ?_, ?_, ?_⟩
       ·rw [List.length_append, ptsL_append, show ptsL [⟨R, pos, pos + 1, false⟩] = [.int .i32 R, .int .i64 (pos : Int), .int .i64 ((pos : Int) + 1), .bool false] from by simp [ptsL, ptL]]
        exact O3.out
       ·rw [List.append_assoc, ← HN.out, HST.out]
        try rw [hBD]
        rfl
       ·have := HF.out; omega
       ·omega
      case measure =>
       simp only [World.iterPos, IT3.out, HIT.out]
       omega
     ·have q2 : decide ((pos : Int) + 3 ≤ s.size) = false := decide_eq_false (by omega)
      have q2' : decide (pos + 3 ≤ s.size) = false := decide_eq_false h3
      clear hok hes hcut hlen3 h3 hR
      go_wp2_with (at_builtin; refine wpList_append_row _ rfl (.tmp 36) (.tmp 44) 85 rfl (w.heap.size + 1) 88 i0 (.agg #[.int .i32 0, .int .i64 0, .int .i64 0, .bool false]) 4 32 Tryd.underlying85 hi hz0 hz1 HI.out rfl (by omega) _ L.length (ptsL L) rfl (HO2.out.alloc _) _ (.slice (some ⟨_, 0, none⟩) 1 1) 1 [.int .i32 R, .int .i64 (pos : Int), .int .i64 ((pos : Int) + 1), .bool false] rfl (row_one4 _ _ _ _ _ _) (by simp [Value.oneCell']) (by unfold maxLen; omega) (by omega) (by simp [HSZ2.out]; omega) ?_; intro v3 w3 hO3 hg3; have O3 := Lib.hid hO3; have G3 := Lib.hid hg3; clear hO3 hg3)
      have K3 := Lib.hid ((HBW2.out.alloc (by rw [HSZ2.out]; omega) _).grown G3.out (by simp [HSZ2.out]; omega) (fun k hk => by have := (HO2.out.lt k hk).1; omega))
      have IT3 : Hid (w3.heap[w.heap.size]? = some (.stringIter s (pos + 1))) := ((G3.out.block _ (by simp [HSZ2.out]; omega) (fun e => by have := (HO2.out.lt _ e.symm).1; omega)).trans (((Below.refl _ _).alloc (Nat.le_refl _) _).block _ (by rw [HSZ2.out]; omega))).trans HIT2.out
      go_roundw
      case rel =>
       refine ⟨pos + 1, f, L ++ [⟨R, pos, pos + 1, false⟩], ?_, IT3.out, K3.out, ?_, ?_, ?_⟩
       ·rw [List.length_append, ptsL_append, show ptsL [⟨R, pos, pos + 1, false⟩] = [.int .i32 R, .int .i64 (pos : Int), .int .i64 ((pos : Int) + 1), .bool false] from by simp [ptsL, ptL]]
        exact O3.out
       ·rw [List.append_assoc, ← HN.out, HST.out]
        try rw [hBD]
        rfl
       ·have := HF.out; omega
       ·omega
      case measure =>
       simp only [World.iterPos, IT3.out, HIT.out]
       omega
   ·have q1 : (R != 65533) = true := by simpa using hR
    have hBD : BD = false := by
     cases h : BD
     ·rfl
     ·exact absurd (hbr h).1 hR
    subst hBD
    have hwd : (encodeRune R).length = WD := hew rfl
    have he : ((Utf8.encode R).size : Int) = WD := by rw [hes, hwd]
    clear hok hew hes hwd hcut hlen3 hbr hR
    go_wp2_with (at_builtin; refine wpList_append_row _ rfl (.tmp 36) (.tmp 44) 85 rfl (w.heap.size + 1) 88 i0 (.agg #[.int .i32 0, .int .i64 0, .int .i64 0, .bool false]) 4 32 Tryd.underlying85 hi hz0 hz1 HI.out rfl (by omega) _ L.length (ptsL L) rfl (HO2.out.alloc _) _ (.slice (some ⟨_, 0, none⟩) 1 1) 1 [.int .i32 R, .int .i64 (pos : Int), .int .i64 ((pos : Int) + WD), .bool true] rfl (row_one4 _ _ _ _ _ _) (by simp [Value.oneCell']) (by unfold maxLen; omega) (by omega) (by simp [HSZ2.out]; omega) ?_; intro v3 w3 hO3 hg3; have O3 := Lib.hid hO3; have G3 := Lib.hid hg3; clear hO3 hg3)
    have K3 := Lib.hid ((HBW2.out.alloc (by rw [HSZ2.out]; omega) _).grown G3.out (by simp [HSZ2.out]; omega) (fun k hk => by have := (HO2.out.lt k hk).1; omega))
    have IT3 : Hid (w3.heap[w.heap.size]? = some (.stringIter s (pos + WD))) := ((G3.out.block _ (by simp [HSZ2.out]; omega) (fun e => by have := (HO2.out.lt _ e.symm).1; omega)).trans (((Below.refl _ _).alloc (Nat.le_refl _) _).block _ (by rw [HSZ2.out]; omega))).trans HIT2.out
    go_roundw
    case rel =>
     refine ⟨pos + WD, f, L ++ [⟨R, pos, pos + WD, true⟩], ?_, IT3.out, K3.out, ?_, ?_, ?_⟩
     ·rw [List.length_append, ptsL_append, show ptsL [⟨R, pos, pos + WD, true⟩] = [.int .i32 R, .int .i64 (pos : Int), .int .i64 ((pos : Int) + WD), .bool true] from by simp [ptsL, ptL]]
      exact O3.out
     ·rw [List.append_assoc, ← HN.out, HST.out]
      try rw [hBD]
      rfl
     ·have := HF.out; omega
     ·omega
    case measure =>
     simp only [World.iterPos, IT3.out, HIT.out]
     omega
  ·have hnx := fun ty => next_none (P := Tryd.prog) hit hlt ty
   have hres : Hid (L = Z) := by
    show _ = _
    rw [← hn]
    cases fuel with
    | zero => simp [ptF]
    | succ f => unfold ptF; rw [if_neg (by omega), List.append_nil]
   clear hn hit
   go_wp2
   refine bodyPost_ret (v := .slice A L.length c) (by simp [results, Tryd.results34, go_sem]) rfl ⟨_, rfl, ?_, hbw⟩
   rw [← hres.out]
   exact own_base ho (by omega)
end Go.Proofs.YtcaibahniheohaaDoor.Words

/- Contract of the document's own number: a row of digits. -/
namespace Go.Proofs.YtcaibahniheohaaDoor.Words
set_option maxRecDepth 100000
open Go.RowKit Go.Shelf Go.Lib
set_option linter.unusedVariables false
def capG (n : Int) : Int := if 8589934592 < n then 8589934592 else n
def numG (base : Int) (L : List Pt) : Int := L.foldl (fun n q => capG (n * base + hexG q.r)) 0
theorem numG_snoc (base : Int) (L : List Pt) (q : Pt) : numG base (L ++ [q]) = capG (numG base L * base + hexG q.r) := by simp [numG]
theorem foldG_range {base : Int} (hb : 0 ≤ base) : ∀ (L : List Pt) (n : Int), 0 ≤ n → n ≤ 8589934592 → (∀ q ∈ L, 0 ≤ hexG q.r) → 0 ≤ L.foldl (fun n q => capG (n * base + hexG q.r)) n ∧ L.foldl (fun n q => capG (n * base + hexG q.r)) n ≤ 8589934592
 | [], n, h0, h1, _ => ⟨h0, h1⟩
 | q :: L, n, h0, h1, h => by
  rw [List.foldl_cons]
  have h2 : 0 ≤ n * base := Int.mul_nonneg h0 hb
  have h3 := h q (by simp)
  exact foldG_range hb L _ (by unfold capG; split <;> omega) (by unfold capG; split <;> omega) (fun q hq => h q (by simp [hq]))
theorem numG_range {base : Int} (hb : 0 ≤ base) (L : List Pt) (h : ∀ q ∈ L, 0 ≤ hexG q.r) : 0 ≤ numG base L ∧ numG base L ≤ 8589934592 := foldG_range hb L 0 (Int.le_refl _) (by omega) h
theorem take_snoc {α : Type} {L : List α} {k : Nat} {q : α} (h : L[k]? = some q) : L.take (k + 1) = L.take k ++ [q] := by
 rw [List.take_add_one, h]; rfl
set_option maxHeartbeats 1000000 in
theorem refNumber_any (b off c n : Nat) (base : Int) (L : List Pt) (w : World) (hn : L.length = n) (hl : n ≤ 1000000) (hb : base = 10 ∨ base = 16) (hc : ∀ k q, L[k]? = some q → w.cell? ⟨b, off + k * 4, none⟩ = some (.int .i32 q.r))  (hf : b < w.heap.size)
  (hd : ∀ q ∈ L, 0 ≤ hexG q.r) (hr : ∀ q ∈ L, 0 ≤ q.r ∧ q.r ≤ 1114111) :
  Calls Tryd.prog 38 #[.slice (some ⟨b, off, none⟩) n c, .int .i64 base] w fun e w' => e = .returned (.int .i64 (numG base L)) ∧ w = w' := by
 have HC := Lib.hid hc
 have HD := Lib.hid hd
 have HR := Lib.hid hr
 have HN := Lib.hid hn
 clear hc hd hr hn
 have hbb : 10 ≤ base ∧ base ≤ 16 := by omega
 obtain ⟨b0, b1⟩ := hbb
 go_enter Tryd.func38, Tryd.ntmps38
 go_wp2
 go_loopw [5, 6] (fun q i wr => ∃ k : Nat, i = .int .i64 k ∧ q = .int .i64 (numG base (L.take k)) ∧ k ≤ n ∧ wr = w) (fun _ i _ => n - (intOf i).toNat)
 case atStart => exact ⟨0, rfl, rfl, by omega, rfl⟩
 case round =>
  obtain ⟨k, rfl, rfl, hk, rfl⟩ := hrel
  by_cases hlt : k < n
  ·obtain ⟨q, hq⟩ : ∃ q, L[k]? = some q := ⟨_, List.getElem?_eq_getElem (by have := HN.out; omega)⟩
   have hcell := HC.out k q hq
   have hmem : q ∈ L := List.mem_of_getElem? hq
   have HQ := Lib.hid hq
   have HSN : Hid (numG base (L.take (k + 1)) = capG (numG base (L.take k) * base + hexG q.r)) := by show _ = _; rw [take_snoc hq, numG_snoc]
   obtain ⟨n0, n1⟩ := numG_range (base := base) (by omega) (L.take k) (fun q hq => HD.out q (List.mem_of_mem_take hq))
   obtain ⟨h0, h1⟩ := hexG_range q.r
   have h0' := HD.out q hmem
   obtain ⟨r0, r1⟩ := HR.out q hmem
   have cH := Lib.hid (fun y => refHex_any q.r y (by omega))
   have m0 : 0 ≤ numG base (L.take k) * base := Int.mul_nonneg n0 (by omega)
   have m1 : numG base (L.take k) * base ≤ 8589934592 * 16 := Int.mul_le_mul n1 b1 (by omega) (by omega)
   have kq : decide ((k : Int) < n) = true := decide_eq_true (by omega)
   have kq2 : decide (k < n) = true := decide_eq_true hlt
   have k0 : (0 : Int) ≤ k := by omega
   have k1 : (k : Int) < n := by omega
   have k2 : (k : Int) ≤ 1000000 := by omega
   generalize hexG q.r = H at *
   generalize q.r = R at *
   generalize numG base (L.take k) = N at *
   generalize hM : N * base = M at *
   clear hq hmem
   by_cases hgt : 8589934592 < M + H
   ·have g : decide (8589934592 < M + H) = true := decide_eq_true hgt
    have HCP : Hid (capG (M + H) = 8589934592) := by show _ = _; unfold capG; rw [if_pos hgt]
    go_wp2_with (go_at_call 37; refine (cH.out _).mono ?_; rintro e w9 ⟨rfl, rfl⟩)
    go_roundw
    case rel => exact ⟨k + 1, rfl, by rw [HSN.out, HCP.out], hlt, by first | rfl | trivial⟩
    case measure => simp [intOf]; omega
   ·have g : decide (8589934592 < M + H) = false := decide_eq_false hgt
    have HCP : Hid (capG (M + H) = M + H) := by show _ = _; unfold capG; rw [if_neg hgt]
    go_wp2_with (go_at_call 37; refine (cH.out _).mono ?_; rintro e w9 ⟨rfl, rfl⟩)
    go_roundw
    case rel => exact ⟨k + 1, rfl, by rw [HSN.out, HCP.out], hlt, by first | rfl | trivial⟩
    case measure => simp [intOf]; omega
  ·have he : k = n := by omega
   have HRES : Hid (numG base (L.take k) = numG base L) := by show _ = _; rw [List.take_of_length_le (by have := HN.out; omega)]
   have kq : decide ((k : Int) < n) = false := decide_eq_false (by omega)
   have kq2 : decide (k < n) = false := decide_eq_false hlt
   clear he
   go_wp2
   go_ret
   exact ⟨ret_int HRES.out, rfl⟩
end Go.Proofs.YtcaibahniheohaaDoor.Words

/- What one rune does on the way of a text into tokens, case by case: plain mathematics. -/
namespace Go.Proofs.YtcaibahniheohaaDoor.Words
set_option maxRecDepth 100000
set_option linter.unusedVariables false
open Go.Lib
section
variable {l : List UInt8} {f p b : Nat} {out : List Tok} {Z : LexR}
theorem nameF_eq {f g p : Nat} (h1 : l.length ≤ p + f) (h2 : l.length ≤ p + g) : nameF l f p = nameF l g p := by
  rcases Nat.le_total f g with h | h
  · obtain ⟨d, rfl⟩ := Nat.exists_eq_add_of_le h
    exact (nameF_more l f p d h1).symm
  · obtain ⟨d, rfl⟩ := Nat.exists_eq_add_of_le h
    exact nameF_more l g p d h2
theorem digF_eq {base : Int} {f g p : Nat} {n : Int} (h1 : l.length ≤ p + f) (h2 : l.length ≤ p + g) : digF l base f p n = digF l base g p n := by
  rcases Nat.le_total f g with h | h
  · obtain ⟨d, rfl⟩ := Nat.exists_eq_add_of_le h
    exact (digF_more l base f p n d h1).symm
  · obtain ⟨d, rfl⟩ := Nat.exists_eq_add_of_le h
    exact digF_more l base g p n d h2
theorem lex_go {x : LexS} (hp : p < l.length) (hb : x.behind ≤ p) : lexF l (f + 1) p x = if (takeZ l p x).1 = 0 then lexF l f (p + wideR (l.drop p)) (takeZ l p x).2 else .bad p (takeZ l p x).1 := by
  conv => lhs; unfold lexF
  rw [if_pos hp, if_neg (by omega)]
theorem lex_over {x : LexS} (hp : p < l.length) (hb : p < x.behind) : lexF l (f + 1) p x = lexF l f (p + wideR (l.drop p)) x := by
  conv => lhs; unfold lexF
  rw [if_pos hp, if_pos hb]
theorem lex_stop {x : LexS} (hp : ¬ p < l.length) : lexF l f p x = .toks x.toks := by
  cases f with
  | zero => rfl
  | succ f => unfold lexF; rw [if_neg hp]
theorem lex_on {x x' : LexS} (h : lexF l (f + 1) p x = Z) (hp : p < l.length) (hb : x.behind ≤ p) (ht : takeZ l p x = (0, x')) : lexF l f (p + wideR (l.drop p)) x' = Z := by
  rw [← h, lex_go hp hb, ht, if_pos rfl]
theorem lex_err {x x' : LexS} {e : Int} (h : lexF l (f + 1) p x = Z) (hp : p < l.length) (hb : x.behind ≤ p) (ht : takeZ l p x = (e, x')) (he : e ≠ 0) : Z = .bad p e := by
  rw [← h, lex_go hp hb, ht, if_neg he]
theorem bad_fffd (h : badR (l.drop p) = true) : runeR (l.drop p) = 65533 := (of_decide_eq_true (show decide (runeR (l.drop p) = 65533 ∧ wideR (l.drop p) = 1) = true from h)).1
theorem good {r : Int} (hr : runeR (l.drop p) = r) (h : r ≠ 65533) : badR (l.drop p) = false := by
  cases hb : badR (l.drop p)
  · rfl
  · exact absurd ((bad_fffd hb).symm.trans hr).symm (fun e => h e)
abbrev S0 (b : Nat) (rm : Bool) (out : List Tok) : LexS := ⟨b, rm, out⟩
theorem at_bad {x : LexS} (h : badR (l.drop p) = true) : takeZ l p x = (5, x) := by unfold takeZ; rw [if_pos h]
theorem at_blank {x : LexS} (h : badR (l.drop p) = false) (hr : blankR (runeR (l.drop p)) = true) : takeZ l p x = (0, x) := by
  have h10 : runeR (l.drop p) ≠ 10 := fun e => by rw [e] at hr; exact absurd hr (by decide)
  unfold takeZ
  rw [if_neg (by simp [h]), if_neg h10, if_pos (.inr hr)]
theorem at_remark {x : LexS} (h : badR (l.drop p) = false) (hx : x.remark = true) (h10 : runeR (l.drop p) ≠ 10) : takeZ l p x = (0, x) := by
  unfold takeZ
  rw [if_neg (by simp [h]), if_neg h10, if_pos (.inl hx)]
theorem at_hash (h : runeR (l.drop p) = 35) : takeZ l p (S0 b false out) = (0, S0 b true out) := by
  unfold takeZ
  rw [if_neg (by simp [good h (by decide)]), h, if_neg (by decide), if_neg (by simp; decide), if_pos rfl]
theorem at_line (rm : Bool) (h : runeR (l.drop p) = 10) : takeZ l p (S0 b rm out) = (0, lineZ l p (S0 b false out)) := by
  unfold takeZ
  rw [if_neg (by simp [good h (by decide)]), h, if_pos rfl]
theorem first_not {r : Int} (h : firstR r = true) : r ≠ 10 ∧ r ≠ 35 ∧ r ≠ 65533 ∧ blankR r = false ∧ signR r = false ∧ ¬ digR r < 10 ∧ r ≠ 45 := by
  refine ⟨?_, ?_, ?_, ?_, ?_, ?_, ?_⟩
  · rintro rfl; revert h; decide +kernel
  · rintro rfl; revert h; decide +kernel
  · rintro rfl; revert h; decide +kernel
  · cases hb : blankR r
    · rfl
    · unfold blankR at hb
      rcases of_decide_eq_true hb with rfl | rfl | rfl
      all_goals (revert h; decide +kernel)
  · cases hb : signR r
    · rfl
    · unfold signR at hb
      rcases of_decide_eq_true hb with rfl | rfl | rfl | rfl
      all_goals (revert h; decide +kernel)
  · intro hd
    have h0 : 48 ≤ r ∧ r ≤ 57 := by unfold digR at hd; repeat' split at hd; all_goals omega
    have h2 : ((List.range 58).all fun c => decide (c < 48) || !firstR (c : Int)) = true := by decide +kernel
    have h3 := List.all_eq_true.1 h2 r.toNat (List.mem_range.2 (by omega))
    rw [decide_eq_false (by omega), Bool.false_or, show ((r.toNat : Nat) : Int) = r by omega, h] at h3
    cases h3
  · rintro rfl; revert h; decide +kernel
theorem at_name {x : LexS} (hx : x.remark = false) (h : firstR (runeR (l.drop p)) = true) : takeZ l p x = (0, addZ l 1 0 p (nameZ (l.drop p)) x) := by
  obtain ⟨h1, h2, h3, h4, _⟩ := first_not h
  unfold takeZ
  rw [if_neg (by simp [good rfl h3]), if_neg h1, if_neg (by simp [hx, h4]), if_neg h2, if_pos h]
theorem at_sign {x : LexS} (hx : x.remark = false) (h : signR (runeR (l.drop p)) = true) : takeZ l p x = (0, addZ l 3 0 p 1 x) := by
  have hr := of_decide_eq_true (show decide (runeR (l.drop p) = 44 ∨ runeR (l.drop p) = 58 ∨ runeR (l.drop p) = 40 ∨ runeR (l.drop p) = 41) = true from h)
  have hf : firstR (runeR (l.drop p)) = false := by
    cases hf : firstR (runeR (l.drop p))
    · rfl
    · have := (first_not hf).2.2.2.2.1; rw [h] at this; cases this
  have hb : blankR (runeR (l.drop p)) = false := decide_eq_false (by omega)
  unfold takeZ
  rw [if_neg (by simp [good (l := l) (p := p) rfl (by omega)]), if_neg (by omega), if_neg (by simp [hx, hb]), if_neg (by omega), if_neg (by simp [hf]), if_pos h]
theorem at_other {x : LexS} (hx : x.remark = false) (hb : badR (l.drop p) = false) (h1 : runeR (l.drop p) ≠ 10) (h2 : runeR (l.drop p) ≠ 35) (h3 : blankR (runeR (l.drop p)) = false) (h4 : firstR (runeR (l.drop p)) = false) (h5 : signR (runeR (l.drop p)) = false) : takeZ l p x = numberZ l p x := by
  unfold takeZ
  rw [if_neg (by simp [hb]), if_neg h1, if_neg (by simp [hx, h3]), if_neg h2, if_neg (by simp [h4]), if_neg (by simp [h5])]
theorem remark_end (h : lexF l f p (S0 b true out) = Z) (hb : b ≤ p) (hf : l.length ≤ p + f) (he : ¬ p < l.length ∨ badR (l.drop p) = true ∨ runeR (l.drop p) = 10) : lexF l f p (S0 b false out) = Z := by
  by_cases hp : p < l.length
  · obtain ⟨g, rfl⟩ : ∃ g, f = g + 1 := ⟨f - 1, by omega⟩
    rw [← h, lex_go hp (by exact hb), lex_go hp (by exact hb)]
    rcases he with he | he | he
    · exact absurd hp he
    · rw [at_bad he, at_bad he, if_neg (show ¬ (5 : Int) = 0 by decide), if_neg (show ¬ (5 : Int) = 0 by decide)]
    · rw [at_line true he, at_line false he]
  · rw [← h, lex_stop hp, lex_stop hp]
theorem name_place (hf : l.length ≤ p + f) (hp : p ≤ l.length) : p + nameZ (l.drop p) = nameF l f p := by
  unfold nameZ
  rw [List.length_drop, nameF_eq hf (g := l.length - p) (by omega), Nat.add_comm]
  have := nameF_drop l p hp (l.length - p) 0
  rw [Nat.add_zero] at this
  exact this
theorem dig_place (base : Int) (hf : l.length ≤ p + f) (hp : p ≤ l.length) : (digZ (l.drop p) base).1 = (digF l base f p 0).1 ∧ p + (digZ (l.drop p) base).2 = (digF l base f p 0).2 := by
  unfold digZ
  rw [List.length_drop, digF_eq hf (g := l.length - p) (by omega), Nat.add_comm p]
  have := digF_drop l base p hp (l.length - p) 0 0
  rw [Nat.add_zero] at this
  exact this
theorem drop_cons {c : Nat} (hp : p < l.length) (hc : c < 128) (hr : runeR (l.drop p) = c) : ∃ t, l.drop p = UInt8.ofNat c :: t ∧ t = l.drop (p + 1) ∧ wideR (l.drop p) = 1 := by
  obtain ⟨d, t, h1, h2, h3⟩ := ascii_rune (from_ne hp) (by omega)
  have hd : d = UInt8.ofNat c := by
    have h4 : d.toNat = c := by omega
    rw [← h4]; simp
  refine ⟨t, by rw [h1, hd], ?_, h3⟩
  have := congrArg List.tail h1
  simpa [List.tail_drop] using this.symm
theorem digF_zero (base : Int) (h : ¬ p < l.length ∨ base ≤ digR (runeR (l.drop p))) (n : Int) : (digF l base f p n) = (n, p) := by
  cases f with
  | zero => rfl
  | succ f =>
    unfold digF
    split
    · rename_i hp
      rcases h with h | h
      · exact absurd hp h
      · rw [if_pos h]
    · rfl
theorem digF_pos (base : Int) (hf : l.length ≤ p + f) (hp : p < l.length) (h : digR (runeR (l.drop p)) < base) : p < (digF l base f p 0).2 := by
  obtain ⟨g, rfl⟩ : ∃ g, f = g + 1 := ⟨f - 1, by omega⟩
  unfold digF
  rw [if_pos hp, if_neg (by omega)]
  have := (digF_le l base g _ (min (0 * base + digR (runeR (l.drop p))) 4294967297) (wide_in hp)).1
  have := wideR_pos (l.drop p)
  omega
def hexAt (l : List UInt8) (p : Nat) : Prop := runeR (l.drop p) = 48 ∧ p + 1 < l.length ∧ runeR (l.drop (p + 1)) = 120 ∧ p + 2 < l.length ∧ digR (runeR (l.drop (p + 2))) < 16
theorem pre_hex (hp : p < l.length) : hasPrefix (l.drop p) [48, 120] = true ↔ runeR (l.drop p) = 48 ∧ p + 1 < l.length ∧ runeR (l.drop (p + 1)) = 120 := by
  constructor
  · intro h
    unfold hasPrefix at h
    obtain ⟨t, ht⟩ := List.isPrefixOf_iff_prefix.1 h
    have e0 : l.drop p = 48 :: 120 :: t := by rw [← ht]; rfl
    have e1 : l.drop (p + 1) = 120 :: t := by
      have := congrArg List.tail e0
      simpa [List.tail_drop] using this
    have hlen := congrArg List.length e0
    simp only [List.length_drop, List.length_cons] at hlen
    refine ⟨?_, by omega, ?_⟩
    · rw [e0]; unfold runeR; rw [decodeL_ascii _ _ (by decide)]; rfl
    · rw [e1]; unfold runeR; rw [decodeL_ascii _ _ (by decide)]; rfl
  · rintro ⟨h1, h2, h3⟩
    obtain ⟨t, e0, e1, _⟩ := drop_cons (c := 48) hp (by omega) h1
    obtain ⟨t2, e2, _, _⟩ := drop_cons (c := 120) h2 (by omega) h3
    rw [e0, e1, e2]
    unfold hasPrefix
    simp [List.isPrefixOf]
theorem pre_neg (hp : p < l.length) : hasPrefix (l.drop p) [45] = true ↔ runeR (l.drop p) = 45 := by
  constructor
  · intro h
    unfold hasPrefix at h
    obtain ⟨t, ht⟩ := List.isPrefixOf_iff_prefix.1 h
    have e0 : l.drop p = 45 :: t := by rw [← ht]; rfl
    rw [e0]; unfold runeR; rw [decodeL_ascii _ _ (by decide)]; rfl
  · intro h1
    obtain ⟨t, e0, _, _⟩ := drop_cons (c := 45) hp (by omega) h1
    rw [e0]
    unfold hasPrefix
    simp [List.isPrefixOf]
theorem num_hex (h : hexAt l p) (hp : p < l.length) (hf : l.length ≤ p + 2 + f) : (numZ (l.drop p)).1 = (digF l 16 f (p + 2) 0).1 ∧ p + (numZ (l.drop p)).2 = (digF l 16 f (p + 2) 0).2 ∧ 0 < (numZ (l.drop p)).2 := by
  obtain ⟨h1, h2, h3, h4, h5⟩ := h
  have hpre := (pre_hex hp).2 ⟨h1, h2, h3⟩
  obtain ⟨a1, a2⟩ := dig_place (l := l) (p := p + 2) 16 hf (by omega)
  have a3 := digF_pos (l := l) (p := p + 2) 16 hf h4 h5
  have a4 : 0 < (digZ (l.drop (p + 2)) 16).2 := by omega
  unfold numZ
  rw [List.drop_drop, if_pos ⟨hpre, a4⟩]
  exact ⟨a1, by simp only; omega, by simp only; omega⟩
theorem num_dec (hx : ¬ hexAt l p) (hp : p < l.length) (h : digR (runeR (l.drop p)) < 10) (hf : l.length ≤ p + f) : (numZ (l.drop p)).1 = (digF l 10 f p 0).1 ∧ p + (numZ (l.drop p)).2 = (digF l 10 f p 0).2 ∧ 0 < (numZ (l.drop p)).2 := by
  obtain ⟨a1, a2⟩ := dig_place (l := l) (p := p) 10 hf (by omega)
  have a3 := digF_pos (l := l) (p := p) 10 hf hp h
  have hn : ¬ hasPrefix (l.drop p) [45] = true := fun e => by rw [(pre_neg hp).1 e] at h; exact absurd h (by decide)
  have hx2 : ¬ (hasPrefix (l.drop p) [48, 120] = true ∧ 0 < (digZ (l.drop (p + 2)) 16).2) := by
    rintro ⟨e1, e2⟩
    obtain ⟨b1, b2, b3⟩ := (pre_hex hp).1 e1
    obtain ⟨c1, c2⟩ := dig_place (l := l) (f := l.length) (p := p + 2) 16 (by omega) (by omega)
    by_cases b4 : p + 2 < l.length ∧ digR (runeR (l.drop (p + 2))) < 16
    · exact hx ⟨b1, b2, b3, b4.1, b4.2⟩
    · rw [digF_zero 16 (by omega)] at c2
      simp only at c2
      omega
  unfold numZ
  rw [List.drop_drop, if_neg hx2, if_neg (fun e => hn e.1)]
  exact ⟨a1, a2, by omega⟩
theorem num_neg (hp : p < l.length) (h : runeR (l.drop p) = 45) (hp1 : p + 1 < l.length) (hd : digR (runeR (l.drop (p + 1))) < 10) (hf : l.length ≤ p + 1 + f) : (numZ (l.drop p)).1 = -(digF l 10 f (p + 1) 0).1 ∧ p + (numZ (l.drop p)).2 = (digF l 10 f (p + 1) 0).2 ∧ 0 < (numZ (l.drop p)).2 := by
  obtain ⟨a1, a2⟩ := dig_place (l := l) (p := p + 1) 10 hf (by omega)
  have a3 := digF_pos (l := l) (p := p + 1) 10 hf hp1 hd
  have hx2 : ¬ hasPrefix (l.drop p) [48, 120] = true := fun e => by have := ((pre_hex hp).1 e).1; omega
  have a4 : 0 < (digZ (l.drop (p + 1)) 10).2 := by omega
  unfold numZ
  rw [if_neg (fun e => hx2 e.1), List.drop_drop, if_pos ⟨(pre_neg hp).2 h, a4⟩]
  exact ⟨by rw [a1], by simp only; omega, by simp only; omega⟩
theorem num_none (hx : ¬ hexAt l p) (hp : p < l.length) (h : ¬ digR (runeR (l.drop p)) < 10) (hn : ¬ (runeR (l.drop p) = 45 ∧ p + 1 < l.length ∧ digR (runeR (l.drop (p + 1))) < 10)) : (numZ (l.drop p)).2 = 0 := by
  have hx2 : ¬ hasPrefix (l.drop p) [48, 120] = true := fun e => by have := ((pre_hex hp).1 e).1; rw [this] at h; exact h (by decide)
  have hn2 : ¬ (hasPrefix (l.drop p) [45] = true ∧ 0 < (digZ (l.drop (p + 1)) 10).2) := by
    rintro ⟨e1, e2⟩
    have b1 := (pre_neg hp).1 e1
    obtain ⟨c1, c2⟩ := dig_place (l := l) (f := l.length) (p := p + 1) 10 (by omega) (by omega)
    rw [digF_zero 10 (by by_cases b2 : p + 1 < l.length
                         · right
                           have : ¬ digR (runeR (l.drop (p + 1))) < 10 := fun b3 => hn ⟨b1, b2, b3⟩
                           omega
                         · exact .inl b2)] at c2
    simp only at c2
    omega
  obtain ⟨c1, c2⟩ := dig_place (l := l) (f := l.length) (p := p) 10 (by omega) (by omega)
  rw [digF_zero 10 (.inr (by omega))] at c2
  unfold numZ
  rw [if_neg (fun e => hx2 e.1), List.drop_drop, if_neg hn2]
  simp only at c2
  omega
end
end Go.Proofs.YtcaibahniheohaaDoor.Words

/- The document's own Split: the body of its loop, and how a round stands. -/
namespace Go.Proofs.YtcaibahniheohaaDoor.Words
set_option maxRecDepth 1000000
open Go.RowKit Go.Shelf Go.Lib
set_option linter.unusedVariables false
def firstLoop : Code → Option Code
 | .loop c => some c
 | .seq a b => match firstLoop a with
  | some c => some c
  | none => firstLoop b
 | .block _ c => firstLoop c
 | .scope c => firstLoop c
 | .cond _ a b => match firstLoop a with
  | some c => some c
  | none => firstLoop b
 | _ => none
noncomputable def bodyS : Code := ((Tryd.f21.body.bind firstLoop).getD .skip)
def FrS (s : ByteArray) (A : Option Addr) (c : Nat) (L : List Pt) (c1 c13 c14 c15 c16 c17 u6 u7 : Value) (a : Act) : Prop := ∃ u2 u3 u4 u8 u9 u10 u11 u12 u18 u19 u20 u21 u22 u23 u24 u25 u26 u27 u28 u29 u30 u31 u32 u33 u34 u35 u36 u37 u38 u39 u40 u41 u42 u43 u44 u45 u46 u47 u48 u49 u50 u51 u52 u53 u54 u55 u56 u57 u58 u59 u60 u61 u62 u63 u64 u65 u66 u67 u68 u69 u70 u71 u72 u73 u74 u75 u76 u77 u78 u79 u80 u81 u82 u83 u84 u85 u86 u87 u88 u89 u90 u91 u92 u93 u94 u95 u96 u97 u98 u99 u100 u101 u102 u103 u104 u105 u106 u107 u108 u109 u110 u111 u112 u113 u114 u115 u116 u117 u118 u119 u120 u121 u122 u123 u124 u125 u126 u127 u128 u129 u130 u131 u132 u133 u134 u135 u136 u137 u138 u139 u140 u141 u142 u143 u144 u145 u146 u147 u148 u149 u150 u151 u152 u153 u154 u155 u156 u157 u158 u159 u160 u161 u162 u163 u164 u165 u166 u167 u168 u169 u170 u171 u172 u173 u174 u175 u176 u177 u178 u179 u180 u181 u182 u183 u184 u185 u186 u187 u188 u189 u190 u191 u192 u193 u194 u195 u196 u197 u198 u199 u200 u201 u202 u203 u204 u205 u206 u207 u208 u209 u210 u211 u212 u213 u214 u215 u216 u217 u218 u219 u220 u221 u222 u223 u224 u225 u226 u227 u228 u229 u230 u231 u232 u233 u234 u235 u236 u237 u238 u239 u240 u241 u242 u243 u244 u245 u246 u247 u248 u249 u250 u251 u252 u253 u254 u255 u256 u257 u258 u259 u260 u261 u262 u263 u264 u265 u266 u267 u268 u269 u270 u271 u272 u273 u274 u275 u276 u277 u278 u279 u280 u281 u282 u283 u284 u285 u286 u287 u288 u289 u290 u291 u292 u293 u294 u295 u296 u297 u298 u299 u300 u301 u302 u303 u304 u305 u306 u307 u308 u309 u310 u311 u312 u313 u314 u315 u316 u317 u318 u319 u320 u321 u322 u323 u324 u325 u326 u327 u328 u329 u330 u331 u332 u333 u334 : Value, a = ⟨#[.string s, c1, u2, u3, u4, .slice A L.length c, u6, u7, u8, u9, u10, u11, u12, c13, c14, c15, c16, c17, u18, u19, u20, u21, u22, u23, u24, u25, u26, u27, u28, u29, u30, u31, u32, u33, u34, u35, u36, u37, u38, u39, u40, u41, u42, u43, u44, u45, u46, u47, u48, u49, u50, u51, u52, u53, u54, u55, u56, u57, u58, u59, u60, u61, u62, u63, u64, u65, u66, u67, u68, u69, u70, u71, u72, u73, u74, u75, u76, u77, u78, u79, u80, u81, u82, u83, u84, u85, u86, u87, u88, u89, u90, u91, u92, u93, u94, u95, u96, u97, u98, u99, u100, u101, u102, u103, u104, u105, u106, u107, u108, u109, u110, u111, u112, u113, u114, u115, u116, u117, u118, u119, u120, u121, u122, u123, u124, u125, u126, u127, u128, u129, u130, u131, u132, u133, u134, u135, u136, u137, u138, u139, u140, u141, u142, u143, u144, u145, u146, u147, u148, u149, u150, u151, u152, u153, u154, u155, u156, u157, u158, u159, u160, u161, u162, u163, u164, u165, u166, u167, u168, u169, u170, u171, u172, u173, u174, u175, u176, u177, u178, u179, u180, u181, u182, u183, u184, u185, u186, u187, u188, u189, u190, u191, u192, u193, u194, u195, u196, u197, u198, u199, u200, u201, u202, u203, u204, u205, u206, u207, u208, u209, u210, u211, u212, u213, u214, u215, u216, u217, u218, u219, u220, u221, u222, u223, u224, u225, u226, u227, u228, u229, u230, u231, u232, u233, u234, u235, u236, u237, u238, u239, u240, u241, u242, u243, u244, u245, u246, u247, u248, u249, u250, u251, u252, u253, u254, u255, u256, u257, u258, u259, u260, u261, u262, u263, u264, u265, u266, u267, u268, u269, u270, u271, u272, u273, u274, u275, u276, u277, u278, u279, u280, u281, u282, u283, u284, u285, u286, u287, u288, u289, u290, u291, u292, u293, u294, u295, u296, u297, u298, u299, u300, u301, u302, u303, u304, u305, u306, u307, u308, u309, u310, u311, u312, u313, u314, u315, u316, u317, u318, u319, u320, u321, u322, u323, u324, u325, u326, u327, u328, u329, u330, u331, u332, u333, u334], []⟩
def WI (s : ByteArray) (A : Option Addr) (c : Nat) (L : List Pt) (c1 c13 c14 c15 c16 c17 : Value) (Rel : Value → Value → World → Prop) (a : Act) (w' : World) : Prop :=
 ∃ u6 u7 : Value, Rel u6 u7 w' ∧ FrS s A c L c1 c13 c14 c15 c16 c17 u6 u7 a
theorem WI.mk {s : ByteArray} {A : Option Addr} {c : Nat} {L : List Pt} {c1 c13 c14 c15 c16 c17 : Value} {Rel : Value → Value → World → Prop} {w' : World} {u2 u3 u4 u6 u7 u8 u9 u10 u11 u12 u18 u19 u20 u21 u22 u23 u24 u25 u26 u27 u28 u29 u30 u31 u32 u33 u34 u35 u36 u37 u38 u39 u40 u41 u42 u43 u44 u45 u46 u47 u48 u49 u50 u51 u52 u53 u54 u55 u56 u57 u58 u59 u60 u61 u62 u63 u64 u65 u66 u67 u68 u69 u70 u71 u72 u73 u74 u75 u76 u77 u78 u79 u80 u81 u82 u83 u84 u85 u86 u87 u88 u89 u90 u91 u92 u93 u94 u95 u96 u97 u98 u99 u100 u101 u102 u103 u104 u105 u106 u107 u108 u109 u110 u111 u112 u113 u114 u115 u116 u117 u118 u119 u120 u121 u122 u123 u124 u125 u126 u127 u128 u129 u130 u131 u132 u133 u134 u135 u136 u137 u138 u139 u140 u141 u142 u143 u144 u145 u146 u147 u148 u149 u150 u151 u152 u153 u154 u155 u156 u157 u158 u159 u160 u161 u162 u163 u164 u165 u166 u167 u168 u169 u170 u171 u172 u173 u174 u175 u176 u177 u178 u179 u180 u181 u182 u183 u184 u185 u186 u187 u188 u189 u190 u191 u192 u193 u194 u195 u196 u197 u198 u199 u200 u201 u202 u203 u204 u205 u206 u207 u208 u209 u210 u211 u212 u213 u214 u215 u216 u217 u218 u219 u220 u221 u222 u223 u224 u225 u226 u227 u228 u229 u230 u231 u232 u233 u234 u235 u236 u237 u238 u239 u240 u241 u242 u243 u244 u245 u246 u247 u248 u249 u250 u251 u252 u253 u254 u255 u256 u257 u258 u259 u260 u261 u262 u263 u264 u265 u266 u267 u268 u269 u270 u271 u272 u273 u274 u275 u276 u277 u278 u279 u280 u281 u282 u283 u284 u285 u286 u287 u288 u289 u290 u291 u292 u293 u294 u295 u296 u297 u298 u299 u300 u301 u302 u303 u304 u305 u306 u307 u308 u309 u310 u311 u312 u313 u314 u315 u316 u317 u318 u319 u320 u321 u322 u323 u324 u325 u326 u327 u328 u329 u330 u331 u332 u333 u334 : Value} (h : Rel u6 u7 w') : WI s A c L c1 c13 c14 c15 c16 c17 Rel ⟨#[.string s, c1, u2, u3, u4, .slice A L.length c, u6, u7, u8, u9, u10, u11, u12, c13, c14, c15, c16, c17, u18, u19, u20, u21, u22, u23, u24, u25, u26, u27, u28, u29, u30, u31, u32, u33, u34, u35, u36, u37, u38, u39, u40, u41, u42, u43, u44, u45, u46, u47, u48, u49, u50, u51, u52, u53, u54, u55, u56, u57, u58, u59, u60, u61, u62, u63, u64, u65, u66, u67, u68, u69, u70, u71, u72, u73, u74, u75, u76, u77, u78, u79, u80, u81, u82, u83, u84, u85, u86, u87, u88, u89, u90, u91, u92, u93, u94, u95, u96, u97, u98, u99, u100, u101, u102, u103, u104, u105, u106, u107, u108, u109, u110, u111, u112, u113, u114, u115, u116, u117, u118, u119, u120, u121, u122, u123, u124, u125, u126, u127, u128, u129, u130, u131, u132, u133, u134, u135, u136, u137, u138, u139, u140, u141, u142, u143, u144, u145, u146, u147, u148, u149, u150, u151, u152, u153, u154, u155, u156, u157, u158, u159, u160, u161, u162, u163, u164, u165, u166, u167, u168, u169, u170, u171, u172, u173, u174, u175, u176, u177, u178, u179, u180, u181, u182, u183, u184, u185, u186, u187, u188, u189, u190, u191, u192, u193, u194, u195, u196, u197, u198, u199, u200, u201, u202, u203, u204, u205, u206, u207, u208, u209, u210, u211, u212, u213, u214, u215, u216, u217, u218, u219, u220, u221, u222, u223, u224, u225, u226, u227, u228, u229, u230, u231, u232, u233, u234, u235, u236, u237, u238, u239, u240, u241, u242, u243, u244, u245, u246, u247, u248, u249, u250, u251, u252, u253, u254, u255, u256, u257, u258, u259, u260, u261, u262, u263, u264, u265, u266, u267, u268, u269, u270, u271, u272, u273, u274, u275, u276, u277, u278, u279, u280, u281, u282, u283, u284, u285, u286, u287, u288, u289, u290, u291, u292, u293, u294, u295, u296, u297, u298, u299, u300, u301, u302, u303, u304, u305, u306, u307, u308, u309, u310, u311, u312, u313, u314, u315, u316, u317, u318, u319, u320, u321, u322, u323, u324, u325, u326, u327, u328, u329, u330, u331, u332, u333, u334], []⟩ w' := ⟨u6, u7, h, u2, u3, u4, u8, u9, u10, u11, u12, u18, u19, u20, u21, u22, u23, u24, u25, u26, u27, u28, u29, u30, u31, u32, u33, u34, u35, u36, u37, u38, u39, u40, u41, u42, u43, u44, u45, u46, u47, u48, u49, u50, u51, u52, u53, u54, u55, u56, u57, u58, u59, u60, u61, u62, u63, u64, u65, u66, u67, u68, u69, u70, u71, u72, u73, u74, u75, u76, u77, u78, u79, u80, u81, u82, u83, u84, u85, u86, u87, u88, u89, u90, u91, u92, u93, u94, u95, u96, u97, u98, u99, u100, u101, u102, u103, u104, u105, u106, u107, u108, u109, u110, u111, u112, u113, u114, u115, u116, u117, u118, u119, u120, u121, u122, u123, u124, u125, u126, u127, u128, u129, u130, u131, u132, u133, u134, u135, u136, u137, u138, u139, u140, u141, u142, u143, u144, u145, u146, u147, u148, u149, u150, u151, u152, u153, u154, u155, u156, u157, u158, u159, u160, u161, u162, u163, u164, u165, u166, u167, u168, u169, u170, u171, u172, u173, u174, u175, u176, u177, u178, u179, u180, u181, u182, u183, u184, u185, u186, u187, u188, u189, u190, u191, u192, u193, u194, u195, u196, u197, u198, u199, u200, u201, u202, u203, u204, u205, u206, u207, u208, u209, u210, u211, u212, u213, u214, u215, u216, u217, u218, u219, u220, u221, u222, u223, u224, u225, u226, u227, u228, u229, u230, u231, u232, u233, u234, u235, u236, u237, u238, u239, u240, u241, u242, u243, u244, u245, u246, u247, u248, u249, u250, u251, u252, u253, u254, u255, u256, u257, u258, u259, u260, u261, u262, u263, u264, u265, u266, u267, u268, u269, u270, u271, u272, u273, u274, u275, u276, u277, u278, u279, u280, u281, u282, u283, u284, u285, u286, u287, u288, u289, u290, u291, u292, u293, u294, u295, u296, u297, u298, u299, u300, u301, u302, u303, u304, u305, u306, u307, u308, u309, u310, u311, u312, u313, u314, u315, u316, u317, u318, u319, u320, u321, u322, u323, u324, u325, u326, u327, u328, u329, u330, u331, u332, u333, u334, rfl⟩
def Wmu (n : Nat) (a : Act) (_ : World) : Nat := n - (intOf (a.tmps.toList.getD 7 (.bool false))).toNat
structure RowsG (L : List Pt) (w0 wr : World) (A : Option Addr) (c : Nat) (v6 : Value) (out : List Tok) : Prop where
 own : wr.ownsRow w0.heap.size 48 4 v6 out.length (toksL out)
 pts : wr.ownsRow w0.heap.size 88 4 (.slice A L.length c) L.length (ptsL L)
 bel : Below w0.heap.size w0 wr
structure RoundG (l : List UInt8) (L : List Pt) (Z : LexR) (w0 wr : World) (A : Option Addr) (c : Nat) (v6 : Value) (i p f b : Nat) (out : List Tok) : Prop where
 at_ : At l L i p f
 beh : b ≤ p
 lex : lexF l f p (S0 b false out) = Z
 len : out.length ≤ p
 rows : RowsG L w0 wr A c v6 out
def RelS (l : List UInt8) (L : List Pt) (Z : LexR) (w0 : World) (A : Option Addr) (c : Nat) (v6 v7 : Value) (wr : World) : Prop :=
 ∃ i p f b out, v7 = .int .i64 (i : Nat) ∧ RoundG l L Z w0 wr A c v6 i p f b out
structure QS (s : ByteArray) (L : List Pt) (Z : LexR) (w0 : World) (A : Option Addr) (c : Nat) (c1 c13 c14 c15 c16 c17 : Value) (Q0 : Exit → Act → World → Prop) : Prop where
 ret : ∀ (p : Nat) (e : Int) (a : Act) (x : World), a.defers = [] → a.tmps.toList.getD 2 (.bool false) = .slice none 0 0 → a.tmps.toList.getD 3 (.bool false) = .int .i64 (p : Int) → a.tmps.toList.getD 4 (.bool false) = .int .i64 e → Z = .bad p e → Below w0.heap.size w0 x → Q0 .ret a x
 out : ∀ (a : Act) (x : World), WI s A c L c1 c13 c14 c15 c16 c17 (fun v6 _ y => ∃ out, Z = .toks out ∧ RowsG L w0 y A c v6 out) a x → Q0 (.exit 0) a x
theorem Wmu_lt {n k m : Nat} {a a' : Act} {x x' : World} (h : a.tmps.toList.getD 7 (.bool false) = .int .i64 (k : Int)) (h' : a'.tmps.toList.getD 7 (.bool false) = .int .i64 (m : Int)) (hk : k < n) (hm : k < m) : Wmu n a' x' < Wmu n a x := by
 unfold Wmu
 rw [h, h']
 simp only [intOf, Int.toNat_natCast]
 omega
theorem cell_new (w : World) (a b c d : Value) (t : TypeId) : (w.alloc (.cells #[a, b, c, d] t)).cell? ⟨w.heap.size, 0, none⟩ = some a ∧ (w.alloc (.cells #[a, b, c, d] t)).cell? ⟨w.heap.size, 1, none⟩ = some b ∧ (w.alloc (.cells #[a, b, c, d] t)).cell? ⟨w.heap.size, 2, none⟩ = some c ∧ (w.alloc (.cells #[a, b, c, d] t)).cell? ⟨w.heap.size, 3, none⟩ = some d := by
 refine ⟨?_, ?_, ?_, ?_⟩ <;> go_simp
theorem RowsG.go {L : List Pt} {w0 wr x : World} {A : Option Addr} {c : Nat} {v6 : Value} {out : List Tok} (h : RowsG L w0 wr A c v6 out) (hb : Below wr.heap.size wr x) : RowsG L w0 x A c v6 out :=
 ⟨own_below h.own hb, own_below h.pts hb, h.bel.trans (hb.mono h.bel.size)⟩
theorem apartS {w : World} {b1 b2 s1 s2 n1 n2 : Nat} {e1 e2 : TypeId} {v1 v2 : Value} {x1 x2 : List Value} (h1 : w.ownsRow b1 e1 s1 v1 n1 x1) (h2 : w.ownsRow b2 e2 s2 v2 n2 x2) (hne : e1 ≠ e2) {g : Nat} (hg : v1.ownBlock = some g) : some g ≠ v2.ownBlock := by
 rcases h1.2 with ⟨rfl, _⟩ | ⟨g1, c1, cur1, rfl, _, a1, _⟩
 ·cases hg
 rcases h2.2 with ⟨rfl, _⟩ | ⟨g2, c2, cur2, rfl, _, a2, _⟩
 ·intro h; cases h
 ·intro h
  simp only [Value.ownBlock, Option.some.injEq] at h hg
  subst hg
  subst h
  rw [a1] at a2
  simp only [Option.some.injEq, Obj.cells.injEq] at a2
  exact hne a2.2.1
theorem RowsG.app {L : List Pt} {w0 x y : World} {A : Option Addr} {c : Nat} {v6 v' : Value} {out : List Tok} {o : Obj} {t : Tok} {news : List Value} (h : RowsG L w0 x A c v6 out) (hg : (x.alloc o).grownBy y v6.ownBlock) (hn : news = tokL t)
  (ho : y.ownsRow w0.heap.size 48 4 v' (out.length + 1) (toksL out ++ news)) : RowsG L w0 y A c v' (out ++ [t]) := by
 refine ⟨?_, ?_, ?_⟩
 ·rw [List.length_append, toksL_append, toksL_cons, toksL_nil, List.append_nil, ← hn]
  exact ho
 ·exact own_grown (h.pts.alloc _) hg (fun g hb => apartS (h.pts.alloc o) (h.own.alloc o) (by decide) hb)
 ·have hb := h.bel.size
  exact Below.grown (h.bel.alloc hb o) hg (by simp; omega) (fun k hk => (h.own.lt k hk).1)
theorem RowsG.drew {L : List Pt} {w0 x : World} {A : Option Addr} {c : Nat} {v6 : Value} {out : List Tok} (h : RowsG L w0 x A c v6 out) : RowsG L w0 x.drew A c v6 out := ⟨h.own, h.pts, Below.drewN_ h.bel 1⟩
structure NameG (l : List UInt8) (L : List Pt) (Z : LexR) (w0 x : World) (A : Option Addr) (c : Nat) (v6 : Value) (out : List Tok) (K pp ff p pb : Nat) (X : LexS) : Prop where
 at_ : At l L (K + 1) pp ff
 lex : lexF l ff pp X = Z
 rows : RowsG L w0 x A c v6 out
 cell : x.cell? ⟨pb, 1, none⟩ = some (.int .i64 (p : Int))
 lt : pb < x.heap.size
 gt : p < pp
theorem NameG.go {l : List UInt8} {L : List Pt} {Z : LexR} {w0 x y : World} {A : Option Addr} {c : Nat} {v6 : Value} {out : List Tok} {K pp ff p pb : Nat} {X : LexS} (h : NameG l L Z w0 x A c v6 out K pp ff p pb X) (hb : Below x.heap.size x y) : NameG l L Z w0 y A c v6 out K pp ff p pb X :=
 ⟨h.at_, h.lex, h.rows.go hb, below_cell hb h.lt h.cell, Nat.lt_of_lt_of_le h.lt hb.size, h.gt⟩
theorem NameG.next {l : List UInt8} {L : List Pt} {Z : LexR} {w0 x : World} {A : Option Addr} {c : Nat} {v6 : Value} {out : List Tok} {K pp gg p pb : Nat} {X : LexS} (h : NameG l L Z w0 x A c v6 out K pp (gg + 1) p pb X) (hA : At l L (K + 1 + 1) (pp + wideR (l.drop pp)) gg) (hp : pp < l.length) (hlt : pp < X.behind) : NameG l L Z w0 x A c v6 out (K + 1) (pp + wideR (l.drop pp)) gg p pb X :=
 ⟨hA, by rw [← lex_over hp hlt]; exact h.lex, h.rows, h.cell, h.lt, by have := h.gt; omega⟩
def CaseG (s : ByteArray) (l : List UInt8) (w wr : World) (A : Option Addr) (c : Nat) (L : List Pt) (Z : LexR) (c1 c13 c14 c15 c16 c17 : Value) (a : Act) (Q0 : Exit → Act → World → Prop) : Prop :=
 Code.wp Tryd.prog bodyS (Exit.then (fun a' x => WI s A c L c1 c13 c14 c15 c16 c17 (RelS l L Z w A c) a' x ∧ Wmu L.length a' x < Wmu L.length a wr) Q0) a wr
theorem own_new {w : World} {B size n k : Nat} {e : TypeId} {v : Value} {xs : List Value} (h : w.ownsRow B e size v n xs) (hk : w.heap.size ≤ k) : some k ≠ v.ownBlock := fun e => by have := (h.lt k e.symm).2; omega
end Go.Proofs.YtcaibahniheohaaDoor.Words

/- The document's own Split: a case of a round. -/
namespace Go.Proofs.YtcaibahniheohaaDoor.Words
set_option maxRecDepth 1000000
open Go.RowKit Go.Shelf Go.Lib
set_option linter.unusedVariables false
set_option maxHeartbeats 4000000 in
theorem split_bad (s : ByteArray) (l : List UInt8) (w wr : World) (A : Option Addr) (c k p f b : Nat) (L : List Pt) (Z : LexR) (out : List Tok) (v6 : Value) (c1 c13 c14 c15 c16 c17 : Value) (a : Act) (Q0 : Exit → Act → World → Prop) (hs : s.size ≤ 1000000) (hl : l = s.data.toList) (hT : TabsLB w.heap.size w) (hR : RoundG l L Z w wr A c v6 k p (f + 1) b out) (hk : k < L.length) (hL : L.length ≤ s.size) (hQ : QS s L Z w A c c1 c13 c14 c15 c16 c17 Q0) (hF : FrS s A c L c1 c13 c14 c15 c16 c17 v6 (.int .i64 (k : Int)) a) (hbad : badR (l.drop p) = true) :
  CaseG s l w wr A c L Z c1 c13 c14 c15 c16 c17 a Q0 := by
 unfold FrS at hF
 iterate 325 (obtain ⟨_, hF⟩ := hF)
 subst hF
 unfold CaseG
 obtain ⟨hA, hbeh, hlex, hlen, hrows⟩ := hR
 obtain ⟨g, hg, hp, hq, hA1⟩ := hA.step hk
 obtain rfl : f = g := by omega
 have HQ := Lib.hid hQ
 have HLEX := Lib.hid hlex
 have HROWS := Lib.hid hrows
 have HA1 := Lib.hid hA1
 have HBEH := Lib.hid hbeh
 have HLEN := Lib.hid hlen
 have HT := Lib.hid hT
 have HLL := Lib.hid hl
 have HPL : Hid (p < l.length) := hp
 obtain ⟨bp, off, hA2, hgl, _⟩ := (Row.of_own hrows.pts).at_ (by omega)
 obtain rfl : A = some ⟨bp, off, none⟩ := hA2
 obtain ⟨e0, e1, e2, e3⟩ := (Row.of_own hrows.pts).pt hq
 have kq : decide ((k : Int) < L.length) = true := decide_eq_true (by omega)
 have kq2 : decide (k < L.length) = true := decide_eq_true hk
 have k0 : (0 : Int) ≤ k := by omega
 have k1 : (k : Int) < L.length := by omega
 have k2 : (L.length : Int) ≤ 1000000 := by omega
 have hp20 : (p : Int) ≤ 1000000 := by have := data_len s; rw [← hl] at this; omega
 have HR := Lib.hid (runeR_range (l.drop p))
 have HW := Lib.hid (wideR_pos (l.drop p))
 have HWI := Lib.hid (wide_in hp)
 have hz : Hid (Z = .bad p 5) := lex_err hlex hp hbeh (at_bad hbad) (by decide)
 unfold ptAt at e0 e1 e2 e3
 simp only at e0 e1 e2 e3
 obtain ⟨R, hRR⟩ : ∃ R, R = runeR (l.drop p) := ⟨_, rfl⟩
 obtain ⟨E, hEE⟩ : ∃ E, E = p + wideR (l.drop p) := ⟨_, rfl⟩
 have HRR := Lib.hid hRR
 have HEE := Lib.hid hEE
 rw [← hRR] at e0 HR
 rw [← hEE] at e2 HA1 HWI
 have HEP : Hid (p < E) := by have := HW.out; show _ < _; omega
 rw [hbad] at e3
 simp only [Bool.not_true] at e3
 clear hRR hEE hbad
 clear hA hbeh hlex hlen hrows hA1 hQ hT hl hg hq hp
 conv => arg 2; whnf
 go_wp2_with fail
 go_quiet (fail)
 go_wp2_with fail
 refine HQ.out.ret _ _ _ _ ?_ ?_ ?_ ?_ hz.out ?_
 rotate_left 4
 ·exact Below.drewN_ (HROWS.out.bel.alloc HROWS.out.bel.size _) _
 all_goals rfl
end Go.Proofs.YtcaibahniheohaaDoor.Words

/- The document's own Split: a case of a round. -/
namespace Go.Proofs.YtcaibahniheohaaDoor.Words
set_option maxRecDepth 1000000
open Go.RowKit Go.Shelf Go.Lib
set_option linter.unusedVariables false
set_option maxHeartbeats 4000000 in
theorem split_blank (s : ByteArray) (l : List UInt8) (w wr : World) (A : Option Addr) (c k p f b : Nat) (L : List Pt) (Z : LexR) (out : List Tok) (v6 : Value) (c1 c13 c14 c15 c16 c17 : Value) (a : Act) (Q0 : Exit → Act → World → Prop) (hs : s.size ≤ 1000000) (hl : l = s.data.toList) (hT : TabsLB w.heap.size w) (hR : RoundG l L Z w wr A c v6 k p (f + 1) b out) (hk : k < L.length) (hL : L.length ≤ s.size) (hQ : QS s L Z w A c c1 c13 c14 c15 c16 c17 Q0) (hF : FrS s A c L c1 c13 c14 c15 c16 c17 v6 (.int .i64 (k : Int)) a) (hbad : badR (l.drop p) = false) (hbl : blankR (runeR (l.drop p)) = true) :
  CaseG s l w wr A c L Z c1 c13 c14 c15 c16 c17 a Q0 := by
 unfold FrS at hF
 iterate 325 (obtain ⟨_, hF⟩ := hF)
 subst hF
 unfold CaseG
 obtain ⟨hA, hbeh, hlex, hlen, hrows⟩ := hR
 obtain ⟨g, hg, hp, hq, hA1⟩ := hA.step hk
 obtain rfl : f = g := by omega
 have HQ := Lib.hid hQ
 have HLEX := Lib.hid hlex
 have HROWS := Lib.hid hrows
 have HA1 := Lib.hid hA1
 have HBEH := Lib.hid hbeh
 have HLEN := Lib.hid hlen
 have HT := Lib.hid hT
 have HLL := Lib.hid hl
 have HPL : Hid (p < l.length) := hp
 obtain ⟨bp, off, hA2, hgl, _⟩ := (Row.of_own hrows.pts).at_ (by omega)
 obtain rfl : A = some ⟨bp, off, none⟩ := hA2
 obtain ⟨e0, e1, e2, e3⟩ := (Row.of_own hrows.pts).pt hq
 have kq : decide ((k : Int) < L.length) = true := decide_eq_true (by omega)
 have kq2 : decide (k < L.length) = true := decide_eq_true hk
 have k0 : (0 : Int) ≤ k := by omega
 have k1 : (k : Int) < L.length := by omega
 have k2 : (L.length : Int) ≤ 1000000 := by omega
 have hp20 : (p : Int) ≤ 1000000 := by have := data_len s; rw [← hl] at this; omega
 have HR := Lib.hid (runeR_range (l.drop p))
 have HW := Lib.hid (wideR_pos (l.drop p))
 have HWI := Lib.hid (wide_in hp)
 have HLX : Hid (lexF l f (p + wideR (l.drop p)) (S0 b false out) = Z) := lex_on hlex hp hbeh (at_blank hbad hbl)
 unfold ptAt at e0 e1 e2 e3
 simp only at e0 e1 e2 e3
 obtain ⟨R, hRR⟩ : ∃ R, R = runeR (l.drop p) := ⟨_, rfl⟩
 obtain ⟨E, hEE⟩ : ∃ E, E = p + wideR (l.drop p) := ⟨_, rfl⟩
 have HRR := Lib.hid hRR
 have HEE := Lib.hid hEE
 rw [← hRR] at e0 HR
 rw [← hEE] at e2 HA1 HWI
 have HEP : Hid (p < E) := by have := HW.out; show _ < _; omega
 rw [hbad] at e3
 simp only [Bool.not_false] at e3
 rw [← hEE] at HLX
 rw [← hRR] at hbl
 clear hRR hEE hbad
 have hr : R = 32 ∨ R = 9 ∨ R = 13 := of_decide_eq_true hbl
 have HN := HA1
 clear hbl
 clear hA hbeh hlex hlen hrows hA1 hQ hT hl hg hq hp
 conv => arg 2; whnf
 rcases hr with hr | hr | hr
 ·have hr : R = 32 := by assumption
  subst hr
  go_wp2_with fail
  refine ⟨?_, ?_⟩
  ·refine WI.mk ?_
   exact ⟨k + 1, E, f, b, out, rfl, HN.out, by have := HBEH.out; have := HEP.out; omega, HLX.out, by have := HLEN.out; have := HEP.out; first | omega | (simp; omega), HROWS.out.go ((Below.refl _ _).alloc (Nat.le_refl _) _)⟩
  ·exact Wmu_lt (k := k) (m := k + 1) rfl rfl hk (by omega)
 ·have hr : R = 9 := by assumption
  subst hr
  go_wp2_with fail
  refine ⟨?_, ?_⟩
  ·refine WI.mk ?_
   exact ⟨k + 1, E, f, b, out, rfl, HN.out, by have := HBEH.out; have := HEP.out; omega, HLX.out, by have := HLEN.out; have := HEP.out; first | omega | (simp; omega), HROWS.out.go ((Below.refl _ _).alloc (Nat.le_refl _) _)⟩
  ·exact Wmu_lt (k := k) (m := k + 1) rfl rfl hk (by omega)
 ·have hr : R = 13 := by assumption
  subst hr
  go_wp2_with fail
  refine ⟨?_, ?_⟩
  ·refine WI.mk ?_
   exact ⟨k + 1, E, f, b, out, rfl, HN.out, by have := HBEH.out; have := HEP.out; omega, HLX.out, by have := HLEN.out; have := HEP.out; first | omega | (simp; omega), HROWS.out.go ((Below.refl _ _).alloc (Nat.le_refl _) _)⟩
  ·exact Wmu_lt (k := k) (m := k + 1) rfl rfl hk (by omega)
end Go.Proofs.YtcaibahniheohaaDoor.Words

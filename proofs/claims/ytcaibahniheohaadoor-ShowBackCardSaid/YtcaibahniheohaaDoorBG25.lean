/- Several texts in one: StrEq, RefSame, LexLaid, AsmLaid. -/
import Derived.Test.YtcaibahniheohaaDoorBG01
import Derived.Lib.Bytes
import Derived.Test.YtcaibahniheohaaDoorBG00
import Derived.Test.YtcaibahniheohaaDoorBG08
import Derived.Test.YtcaibahniheohaaDoorBG03
import Derived.LoopTactic
import Derived.LoopN
import Derived.Test.YtcaibahniheohaaDoorRows
import Derived.PinnedBridge
import Derived.Lib.LaidU8
import Derived.Lib.LaidRTab
import Derived.Lay

/- Two strings of bytes compared. Nothing here speaks of one program text. -/
namespace Go.Proofs.YtcaibahniheohaaDoor.Words
set_option maxRecDepth 100000
open Go.RowKit
theorem str_inj : ∀ {xs ys : List Int}, (∀ b ∈ xs, 0 ≤ b ∧ b ≤ 255) → (∀ b ∈ ys, 0 ≤ b ∧ b ≤ 255) → strOfNums xs = strOfNums ys → xs = ys := by
 intro xs ys hx hy h
 have h1 : (xs.map fun n => UInt8.ofNat n.toNat) = (ys.map fun n => UInt8.ofNat n.toNat) := by
  rw [← strOfNums_data, ← strOfNums_data, h]
 clear h
 induction xs generalizing ys with
 | nil => cases ys with
  | nil => rfl
  | cons b ys => simp at h1
 | cons a xs ih => cases ys with
  | nil => simp at h1
  | cons b ys =>
   simp only [List.map_cons, List.cons.injEq] at h1
   have ha := hx a (by simp)
   have hb := hy b (by simp)
   have e : a.toNat = b.toNat := by
    have := congrArg UInt8.toNat h1.1
    simp only [UInt8.toNat_ofNat'] at this
    omega
   rw [show a = b by omega, ih (fun b hb => hx b (by simp [hb])) (fun b hb => hy b (by simp [hb])) h1.2]
theorem str_eq {xs ys : List Int} (hx : ∀ b ∈ xs, 0 ≤ b ∧ b ≤ 255) (hy : ∀ b ∈ ys, 0 ≤ b ∧ b ≤ 255) : ((strOfNums xs).toList == (strOfNums ys).toList) = decide (xs = ys) := by
 by_cases h : xs = ys
 ·subst h; simp
 ·rw [decide_eq_false h, beq_eq_false_iff_ne]
  intro g
  rw [Lib.strOfNums_toList, Lib.strOfNums_toList] at g
  apply h
  apply str_inj hx hy
  have : (strOfNums xs).data.toList = (strOfNums ys).data.toList := by rw [strOfNums_data, strOfNums_data]; exact g
  have e : ∀ s : ByteArray, s = ⟨s.data⟩ := fun _ => rfl
  rw [e (strOfNums xs), e (strOfNums ys)]
  congr 1
  exact Array.toList_inj.1 this
end Go.Proofs.YtcaibahniheohaaDoor.Words

/- Contract of the document's own SameProgram: are two programs one? -/
namespace Go.Proofs.YtcaibahniheohaaDoor.Words
set_option maxRecDepth 100000
open Go.RowKit
set_option linter.unusedVariables false
theorem drop_eq_step {l m : List Ins} {j : Nat} {x y : Ins} (hx : l[j]? = some x) (hy : m[j]? = some y) : (l.drop j = m.drop j) ↔ (x = y ∧ l.drop (j + 1) = m.drop (j + 1)) := by
 obtain ⟨h1, rfl⟩ := List.getElem?_eq_some_iff.1 hx
 obtain ⟨h2, rfl⟩ := List.getElem?_eq_some_iff.1 hy
 rw [List.drop_eq_getElem_cons h1, List.drop_eq_getElem_cons h2, List.cons.injEq]
theorem at_some' {l : List Ins} {j : Nat} (h : j < l.length) : ∃ i, l[j]? = some i := ⟨_, List.getElem?_eq_getElem h⟩
theorem as_le {l : List Ins} {n k : Nat} (h : l.length = n) (hk : n ≤ k) : l.length ≤ k := by omega
set_option maxHeartbeats 4000000 in
theorem refSame_parts (A1 D1 A2 D2 : Option Addr) (n1 m1 n2 m2 c1 d1 c2 d2 : Nat) (s1 s2 : Int) (l1 l2 : List Ins) (x1 x2 : List Int) (w : World)
  (h1 : Row w w.heap.size 5 (.slice A1 n1 c1) n1 (codeCells l1)) (h2 : Row w w.heap.size 5 (.slice A2 n2 c2) n2 (codeCells l2)) (r1 : Row w w.heap.size 1 (.slice D1 m1 d1) m1 (x1.map (Value.int .u8))) (r2 : Row w w.heap.size 1 (.slice D2 m2 d2) m2 (x2.map (Value.int .u8)))
  (e1 : l1.length = n1) (e2 : l2.length = n2) (f1 : ∀ b ∈ x1, 0 ≤ b ∧ b ≤ 255) (f2 : ∀ b ∈ x2, 0 ≤ b ∧ b ≤ 255) :
  Calls Tryd.prog 8 #[.agg #[.slice A1 n1 c1, .int .i64 s1, .slice D1 m1 d1], .agg #[.slice A2 n2 c2, .int .i64 s2, .slice D2 m2 d2]] w fun e w' => e = .returned (.bool (decide (l1 = l2 ∧ s1 = s2 ∧ x1 = x2))) ∧ Below w.heap.size w w' := by
 obtain ⟨u1, u2⟩ := h1.cap
 obtain ⟨u3, u4⟩ := r1.cap
 obtain ⟨u5, u6⟩ := h2.cap
 obtain ⟨u7, u8⟩ := r2.cap
 have HK := Lib.hid (fun (o1 o2 : Obj) (x : World) (h : Kept ((w.alloc o1).alloc o2) x) => (((Below.refl w.heap.size w).alloc (Nat.le_refl _) o1).alloc (by simp) o2).trans (h.mono (by simp; omega)))
 by_cases hn : n1 = n2
 rotate_left
 ·rw [decide_eq_false (fun h => hn (by rw [← e1, ← e2, h.1]))]
  have hb : ((n1 : Int) != n2) = true := by simp; omega
  clear h1 h2 e1 e2
  go_enter Tryd.func8, Tryd.ntmps8
  go_wp2_with fail
  go_ret
  exact ⟨rfl, HK.out _ _ _ (Kept.refl _)⟩
 subst hn
 by_cases hs : s1 = s2
 rotate_left
 ·rw [decide_eq_false (fun h => hs h.2.1)]
  have hb : (s1 != s2) = true := by simpa using hs
  clear h1 h2 e1 e2
  go_enter Tryd.func8, Tryd.ntmps8
  go_wp2_with fail
  go_ret
  exact ⟨rfl, HK.out _ _ _ (Kept.refl _)⟩
 subst hs
 have W0 := Lib.hid (conv_row (P := Tryd.prog) ((w.alloc (.cells #[.slice A1 n1 c1, .int .i64 s1, .slice D1 m1 d1] 26)).alloc (.cells #[.slice A2 n1 c2, .int .i64 s1, .slice D2 m2 d2] 26)) 24 5 Tryd.underlying24 Tryd.underlying5 ((r1.alloc (Nat.le_refl _) (.cells #[.slice A1 n1 c1, .int .i64 s1, .slice D1 m1 d1] 26)).alloc (by simp) (.cells #[.slice A2 n1 c2, .int .i64 s1, .slice D2 m2 d2] 26)) 9 Tryd.underlying9)
 have W1 := Lib.hid (conv_row (P := Tryd.prog) ((w.alloc (.cells #[.slice A1 n1 c1, .int .i64 s1, .slice D1 m1 d1] 26)).alloc (.cells #[.slice A2 n1 c2, .int .i64 s1, .slice D2 m2 d2] 26)) 24 5 Tryd.underlying24 Tryd.underlying5 ((r2.alloc (Nat.le_refl _) (.cells #[.slice A1 n1 c1, .int .i64 s1, .slice D1 m1 d1] 26)).alloc (by simp) (.cells #[.slice A2 n1 c2, .int .i64 s1, .slice D2 m2 d2] 26)) 9 Tryd.underlying9)
 have hss := str_eq f1 f2
 by_cases hd : x1 = x2
 rotate_left
 ·have w0 := W0.out
  have w1 := W1.out
  rw [decide_eq_false (fun h => hd h.2.2)]
  rw [decide_eq_false hd] at hss
  clear h1 h2 e1 e2
  go_enter Tryd.func8, Tryd.ntmps8
  go_wp2_with fail
  go_ret
  exact ⟨rfl, HK.out _ _ _ (Kept.refl _)⟩
 subst hd
 clear hss
 have e2' := Lib.hid e2
 have e1' := Lib.hid e1
 clear e1 e2
 have HP := Lib.hid (show decide (l1 = l2 ∧ s1 = s1 ∧ x1 = x1) = decide (l1 = l2) by simp)
 rw [HP.out]
 clear HP
 by_cases h0 : n1 = 0
 ·subst h0
  have z1 : l1 = [] := List.eq_nil_of_length_eq_zero e1'.out
  have z2 : l2 = [] := List.eq_nil_of_length_eq_zero e2'.out
  have hz := Lib.hid (show decide (l1 = l2) = true by rw [z1, z2]; rfl)
  clear z1 z2 h1 h2
  have w0 := W0.out
  have w1 := W1.out
  go_enter Tryd.func8, Tryd.ntmps8
  go_wp2_with fail
  refine wp_loop_rounds 1 ?_
  rw [rounds_succ]
  go_wp2_with fail
  go_ret
  exact ⟨ret_bool hz.out.symm, HK.out _ _ _ (Kept.refl _)⟩
 obtain ⟨b1, o1, rfl, hb1, _⟩ := h1.at_ h0
 obtain ⟨b2, o2, rfl, hb2, _⟩ := h2.at_ h0
 have HC1 := Lib.hid (fun (k : Nat) (i : Ins) (hi : l1[k]? = some i) => ((h1.alloc (Nat.le_refl _) (.cells #[.slice (some ⟨b1, o1, none⟩) n1 c1, .int .i64 s1, .slice D1 m1 d1] 26)).alloc (by simp) (.cells #[.slice (some ⟨b2, o2, none⟩) n1 c2, .int .i64 s1, .slice D2 m2 d2] 26)).ins hi)
 have HC2 := Lib.hid (fun (k : Nat) (i : Ins) (hi : l2[k]? = some i) => ((h2.alloc (Nat.le_refl _) (.cells #[.slice (some ⟨b1, o1, none⟩) n1 c1, .int .i64 s1, .slice D1 m1 d1] 26)).alloc (by simp) (.cells #[.slice (some ⟨b2, o2, none⟩) n1 c2, .int .i64 s1, .slice D2 m2 d2] 26)).ins hi)
 have HA1 := Lib.hid (fun j (h : j < n1) => at_some' (l := l1) (j := j) (by rw [e1'.out]; exact h))
 have HA2 := Lib.hid (fun j (h : j < n1) => at_some' (l := l2) (j := j) (by rw [e2'.out]; exact h))
 have HS := Lib.hid (fun (j : Nat) (x y : Ins) (hx : l1[j]? = some x) (hy : l2[j]? = some y) => drop_eq_step hx hy)
 have HE1 := Lib.hid (fun (k : Nat) (h : n1 ≤ k) => List.drop_eq_nil_of_le (as_le e1'.out h))
 have HE2 := Lib.hid (fun (k : Nat) (h : n1 ≤ k) => List.drop_eq_nil_of_le (as_le e2'.out h))
 have H0 := Lib.hid (show (l1 = l2) ↔ (l1.drop 0 = l2.drop 0) by rw [List.drop_zero, List.drop_zero])
 have w0 := W0.out
 have w1 := W1.out
 clear h1 h2 W0 W1
 have c0 : ((w.alloc (.cells #[.slice (some ⟨b1, o1, none⟩) n1 c1, .int .i64 s1, .slice D1 m1 d1] 26)).alloc (.cells #[.slice (some ⟨b2, o2, none⟩) n1 c2, .int .i64 s1, .slice D2 m2 d2] 26)).cell? ⟨w.heap.size, 0, none⟩ = some (.slice (some ⟨b1, o1, none⟩) n1 c1) := by go_simp
 have c9 : ((w.alloc (.cells #[.slice (some ⟨b1, o1, none⟩) n1 c1, .int .i64 s1, .slice D1 m1 d1] 26)).alloc (.cells #[.slice (some ⟨b2, o2, none⟩) n1 c2, .int .i64 s1, .slice D2 m2 d2] 26)).cell? ⟨w.heap.size + 1, 0, none⟩ = some (.slice (some ⟨b2, o2, none⟩) n1 c2) := by go_simp
 have hk := HK.out (.cells #[.slice (some ⟨b1, o1, none⟩) n1 c1, .int .i64 s1, .slice D1 m1 d1] 26) (.cells #[.slice (some ⟨b2, o2, none⟩) n1 c2, .int .i64 s1, .slice D2 m2 d2] 26)
 have hK := Lib.hid hk
 clear hk HK
 go_enter Tryd.func8, Tryd.ntmps8
 go_wp2_with fail
 generalize ((w.alloc (.cells #[.slice (some ⟨b1, o1, none⟩) n1 c1, .int .i64 s1, .slice D1 m1 d1] 26)).alloc (.cells #[.slice (some ⟨b2, o2, none⟩) n1 c2, .int .i64 s1, .slice D2 m2 d2] 26)) = W at *
 clear w0 w1
 go_loopw [5] (fun i wr => ∃ j m : Nat, j ≤ n1 ∧ i = .int .i64 j ∧ wr = W.drewN m ∧ ((l1 = l2) ↔ (l1.drop j = l2.drop j))) (fun i _ => n1 - (intOf i).toNat)
 case atStart => exact ⟨0, 0, Nat.zero_le _, rfl, rfl, H0.out⟩
 case round =>
  obtain ⟨j, m, hj, rfl, rfl, hT⟩ := hrel
  have HT := Lib.hid hT
  clear hT
  by_cases hlt : j < n1
  ·obtain ⟨x, hx⟩ := HA1.out j hlt
   obtain ⟨y, hy⟩ := HA2.out j hlt
   have hs := Lib.hid (HS.out j x y hx hy)
   obtain ⟨a0, a1, a2, a3, a4⟩ := HC1.out j x hx
   obtain ⟨b0, b1', b2', b3, b4⟩ := HC2.out j y hy
   have k0 : (0 : Int) ≤ j := by omega
   have k1 : (j : Int) < n1 := by omega
   clear hx hy
   have q := neq_ins x y
   by_cases hxy : x = y
   ·subst hxy
    have hd : decide (x = x) = true := by simp
    rw [hd] at q
    have hres := Lib.hid (show (l1 = l2) ↔ (l1.drop (j + 1) = l2.drop (j + 1)) by rw [HT.out, hs.out]; simp)
    clear hd
    go_wp2_with fail
    go_quiet (fail)
    go_wp2_with fail
    go_roundw
    case rel => exact ⟨j + 1, _, by omega, by go_num, rfl, hres.out⟩
    case measure => simp [intOf]; omega
   ·have hd : decide (x = y) = false := by simpa using hxy
    rw [hd] at q
    have hres := Lib.hid (show decide (l1 = l2) = false by rw [decide_eq_false_iff_not, HT.out, hs.out]; exact fun h => hxy h.1)
    clear hd hxy
    go_wp2_with fail
    go_quiet (fail)
    go_wp2_with fail
    go_ret
    exact ⟨ret_bool hres.out.symm, hK.out _ (Kept.drewN (Kept.drewN (Kept.refl _) m) _)⟩
  ·have hres := Lib.hid (show decide (l1 = l2) = true by rw [decide_eq_true_iff, HT.out, HE1.out j (by omega), HE2.out j (by omega)])
   go_wp2_with fail
   go_ret
   exact ⟨ret_bool hres.out.symm, hK.out _ (Kept.drewN (Kept.refl _) m)⟩
theorem refSame_any (A1 D1 A2 D2 : Option Addr) (c1 d1 c2 d2 : Nat) (p1 p2 : Prog) (w : World) (h1 : ProgV w w.heap.size (.slice A1 p1.code.length c1) (.slice D1 p1.data.length d1) p1) (h2 : ProgV w w.heap.size (.slice A2 p2.code.length c2) (.slice D2 p2.data.length d2) p2)
  (f1 : ∀ b ∈ p1.data, 0 ≤ b ∧ b ≤ 255) (f2 : ∀ b ∈ p2.data, 0 ≤ b ∧ b ≤ 255) :
  Calls Tryd.prog 8 #[.agg #[.slice A1 p1.code.length c1, .int .i64 p1.size, .slice D1 p1.data.length d1], .agg #[.slice A2 p2.code.length c2, .int .i64 p2.size, .slice D2 p2.data.length d2]] w fun e w' =>
   e = .returned (.bool (decide (p1 = p2))) ∧ Below w.heap.size w w' := by
 have e : decide (p1 = p2) = decide (p1.code = p2.code ∧ p1.size = p2.size ∧ p1.data = p2.data) := by rw [decide_eq_decide]; exact Prog.eq_iff p1 p2
 rw [e]
 exact refSame_parts A1 D1 A2 D2 _ _ _ _ c1 d1 c2 d2 p1.size p2.size p1.code p2.code p1.data p2.data w h1.code h2.code h1.data h2.data rfl rfl f1 f2
end Go.Proofs.YtcaibahniheohaaDoor.Words

/- The tables that a row of chapter 7 lists are laid: the fact that the walks ask, and the world of the witness. -/
namespace Go.Proofs.YtcaibahniheohaaDoor.Words
set_option maxRecDepth 100000
open Go.RowKit Go.Shelf Go.Lib
set_option linter.unusedVariables false
theorem props_eq : (Rows.laid_unicode_properties : DataW Unit) = tabData .u8 propertiesTab := by kernel_rfl
theorem letter_eq : Rows.laid_unicode_Letter = rtabData letterT := Pinned.letter_eq
theorem xLetter : RExtra Tryd.prog Tryd.lays200_ren := ⟨by kernel_rfl, by kernel_rfl, by kernel_rfl, by kernel_rfl, by kernel_rfl, by kernel_rfl, by kernel_rfl, by kernel_rfl⟩
theorem tab_of_reads {P : Program} {W : World} {name : String} {k : IntKind} {zs : List Int} {g : Nat} {t e : TypeId} {n : Nat}
  (hg : P.globalNamed name = some g) (hty : (P.globals[g]?).map (·.type) = some t) (ht : P.underlying t = some (.array n e)) (he : P.underlying e = some (.int k)) (hce : P.cellsOf e = 1) (hct : P.cellsOf t = n)
  (h : VarReads P W name (tabData k zs)) : Lib.TabIs P W name k zs := by
 obtain ⟨g', t', cs, fuel, p, hg', ht', hvar, hd⟩ := h
 obtain rfl := Option.some.inj (hg.symm.trans hg')
 obtain rfl := Option.some.inj (hty.symm.trans ht')
 unfold Lib.TabIs
 rw [hvar, ← cells_of_tab ht he hce hct hd]
end Go.Proofs.YtcaibahniheohaaDoor.Words

/- The tables that a row of chapter 8 lists are laid: the facts that the walks ask. -/
namespace Go.Proofs.YtcaibahniheohaaDoor.Words
set_option maxRecDepth 100000
open Go.RowKit Go.Shelf Go.Lib
set_option linter.unusedVariables false
def strsData {H : Type} (zs : List (List UInt8)) : DataW H := .agg (zs.map fun z => .lit (.string z))
theorem cells_of_strs {H : Type} {enc : TypeId × Value → H} {P : Program} {w : World} {base : Nat} {sp : Nat → Bool} {held : Bool} {fuel : Nat} {t e : TypeId} {n : Nat} {cs : List Value} {zs : List (List UInt8)} {p : List MemPlace}
  (ht : P.underlying t = some (.array n e)) (he : P.underlying e = some .string) (hce : P.cellsOf e = 1) (hct : P.cellsOf t = n)
  (h : DataW.trod enc P w base sp held fuel t cs = some (strsData zs, p)) : cs = zs.map fun z => Value.string (txt z) := by
 cases fuel with
 | zero => simp [DataW.trod] at h
 | succ fuel =>
  simp only [DataW.trod, ht, hce, hct, Nat.mul_one] at h
  split at h
  ·rename_i hl
   obtain ⟨xs, hm, hx⟩ := Option.map_eq_some_iff.1 h
   have hxs : xs.map (·.1) = zs.map fun z => (DataW.lit (.string z) : DataW H) := by
    have := congrArg Prod.fst hx
    simpa [strsData] using this
   have hxl : xs.length = n := by simpa using mapM_length hm
   have hzl : zs.length = n := by
    have := congrArg List.length hxs
    simp at this
    omega
   apply List.ext_getElem?
   intro i
   by_cases hi : i < n
   ·obtain ⟨b, hb, hf⟩ := mapM_at hm i i (by simp [hi])
    obtain ⟨z, hc, rfl, _⟩ := DataW.trod_string he hf
    have h1 : cs[i]? = some (.string z) := by
     have := congrArg (·[0]?) hc
     simpa [List.getElem?_take, List.getElem?_drop] using this
    have h2 : (xs.map (·.1))[i]? = some (DataW.lit (.string z.data.toList) : DataW H) := by simp [hb]
    rw [hxs] at h2
    simp only [List.getElem?_map, Option.map_eq_some_iff, DataW.lit.injEq, Lit.string.injEq] at h2
    obtain ⟨z', hz', hzz⟩ := h2
    rw [h1, List.getElem?_map, hz', Option.map_some, txt_eq hzz.symm]
   ·rw [List.getElem?_eq_none (by omega), List.getElem?_eq_none (by simp; omega)]
  ·cases h
end Go.Proofs.YtcaibahniheohaaDoor.Words

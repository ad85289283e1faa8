/- Several texts in one: RowCopyG, WordPut, BytesStore, BytesMath2, SeqLay, LinT. -/
import Derived.Test.YtdjllgdeijdieaaG01
import Derived.Test.YtdjllgdeijdieaaG05
import Derived.Test.YtdjllgdeijdieaaG00
import Derived.Test.YtdjllgdeijdieaaG02
import Derived.Test.YtdjllgdeijdieaaG03

/- Law of no one program: 'copy' of any row into a row of the call's own, where nothing but that row's block turns. -/
namespace Go.Proofs.Ytdjllgdeijdieaa.Words
set_option maxRecDepth 100000
open Go.RowKit
set_option linter.unusedVariables false

section
variable {P : Program} {w : World}

theorem wp_copy_rowsG {o : Oper} {a : Act} {K : Act → World → Prop} {Q : Exit → Act → World → Prop} (d s : Operand) (dT sT : TypeId)
    (ho : o.op = .call { callee := .builtin .copy, args := #[d, s], argTypes := #[dT, sT] }) (elem : TypeId) (hu : P.underlying dT = some (.slice elem)) (hsz : (P.info? elem).map (·.size) = some 1)
    (base g n cap off dLen dCap : Nat) (xs : List Value) (hown : w.ownsRow base elem 1 (.slice (some ⟨g, 0, none⟩) n cap) n xs) (hd : a.eval d = .slice (some ⟨g, off, none⟩) dLen dCap)
    (A : Option Addr) (m c B : Nat) (ys : List Value) (hs : a.eval s = .slice A m c) (hr : Row w B 1 (.slice A m c) m ys) (h1 : ∀ v ∈ ys, v.oneCell' = true) (hfit : off + min m dLen ≤ n)
    (h : ∀ w', w'.ownsRow base elem 1 (.slice (some ⟨g, 0, none⟩) n cap) n (splice xs off (ys.take dLen)) → w.grownBy w' (some g) → K (a.put o.dst (goInt ((min m dLen : Nat) : Int))) w') :
    Oper.wp P o a w K Q := by
  obtain ⟨cur, hg, hb, hn, hm, hcl, hx⟩ := own_block hown
  have hl : ys.length = m := by have := hr.len; omega
  have hcs : (ys.take dLen).length = min m dLen := by rw [List.length_take, hl, Nat.min_comm]
  by_cases h0 : min m dLen = 0
  · have hrun := run_copy_none (P := P) w dT sT o.type elem (some ⟨g, off, none⟩) A dLen dCap m c hu hsz h0
    have he : ys.take dLen = [] := List.eq_nil_of_length_eq_zero (hcs.trans h0)
    unfold Oper.wp
    simp [execOp, ho, resolve, invoke, builtin, hd, hs, hrun, Result.andThen]
    have := h w (by rw [he]; simpa [splice] using hown) (World.grownBy.refl _ _)
    rw [h0] at this
    exact this
  · obtain ⟨b, o2, rfl, hlt, hc⟩ := hr.at_ (show m ≠ 0 by omega)
    have hcell : ∀ j v, (ys.take dLen)[j]? = some v → w.cell? ((⟨b, o2, none⟩ : Addr).add j) = some v := by
      intro j v hv
      rw [add_spot]
      refine hc j v ?_
      rw [List.getElem?_take] at hv
      split at hv
      · exact hv
      · cases hv
    have hrun := run_copy_row (P := P) w dT sT o.type elem g off dLen dCap ⟨b, o2, none⟩ m c cur.toArray elem (ys.take dLen) hu hsz hg hcs hcell (by simp only [List.size_toArray]; omega) (fun v hv => h1 v (List.mem_of_mem_take hv))
    unfold Oper.wp
    simp [execOp, ho, resolve, invoke, builtin, hd, hs, hrun, Result.andThen]
    have hk : a.put o.dst (goInt (min dLen ys.length : Nat)) = a.put o.dst (goInt ((min m dLen : Nat) : Int)) := by rw [hl, Nat.min_comm]
    have := h (w.setRow g (splice cur off (ys.take dLen)).toArray) (by
      refine ⟨?_, .inr ⟨g, cap, (splice cur off (ys.take dLen)).toArray, rfl, hb, setRow_heap w g _ _ elem _ hg, hn, hm, ?_, ?_⟩⟩
      · have hxl : xs.length = n := by have := hown.1; omega
        rw [length_splice _ _ _ (by rw [hcs]; omega)]; omega
      · simp only [List.size_toArray]; rw [length_splice _ _ _ (by rw [hcs]; omega)]; omega
      · rw [Nat.mul_one]
        show (splice cur off (ys.take dLen)).take n = _
        rw [take_splice _ _ _ _ (by rw [hcs]; omega) (by omega), hx])
      ⟨rfl, rfl, rfl, by simp [World.setRow], fun k _ hk => setRow_other w g k _ (fun e => hk (by rw [e]))⟩
    rw [← hk] at this
    unfold splice at this
    simp only [List.length_take] at this
    exact this

theorem wpList_copy_rowsG {ops : Array Oper} {rest : List Oper} {o : Oper} {a : Act} {Q : Exit → Act → World → Prop} (hgd : o.guard = none) (d s : Operand) (dT sT : TypeId)
    (ho : o.op = .call { callee := .builtin .copy, args := #[d, s], argTypes := #[dT, sT] }) (elem : TypeId) (hu : P.underlying dT = some (.slice elem)) (hsz : (P.info? elem).map (·.size) = some 1)
    (base g n cap off dLen dCap : Nat) (xs : List Value) (hown : w.ownsRow base elem 1 (.slice (some ⟨g, 0, none⟩) n cap) n xs) (hd : a.eval d = .slice (some ⟨g, off, none⟩) dLen dCap)
    (A : Option Addr) (m c B : Nat) (ys : List Value) (hs : a.eval s = .slice A m c) (hr : Row w B 1 (.slice A m c) m ys) (h1 : ∀ v ∈ ys, v.oneCell' = true) (hfit : off + min m dLen ≤ n)
    (h : ∀ w', w'.ownsRow base elem 1 (.slice (some ⟨g, 0, none⟩) n cap) n (splice xs off (ys.take dLen)) → w.grownBy w' (some g) → wpList P ops Q rest (a.put o.dst (goInt ((min m dLen : Nat) : Int))) w') :
    wpList P ops Q (o :: rest) a w :=
  wpList_plain hgd fun K hK => wp_copy_rowsG d s dT sT ho elem hu hsz base g n cap off dLen dCap xs hown hd A m c B ys hs hr h1 hfit fun w' h2 h3 => hK _ _ (h w' h2 h3)
end
end Go.Proofs.Ytdjllgdeijdieaa.Words

/- Contract of word.Put: the bytes handed in, and behind them the word's four bytes, the lowest first, in memory of the call's own. Condition: with four bytes more it is no longer than 2^47. -/
namespace Go.Proofs.Ytdjllgdeijdieaa.Words
set_option maxRecDepth 100000
open Go.RowKit


/-- The four bytes of a word. -/
def quad (x : Int) : List Value := [.int .u8 (x % 256), .int .u8 (x / 256 % 256), .int .u8 (x / 65536 % 256), .int .u8 (x / 16777216)]
theorem quad_one (x : Int) : ∀ u ∈ quad x, u.oneCell' = true := by
  intro u hu
  simp only [quad, List.mem_cons, List.not_mem_nil, or_false] at hu
  rcases hu with rfl | rfl | rfl | rfl <;> rfl
theorem quad_len (x : Int) : (quad x).length = 4 := rfl

theorem put_form {w : World} {A : Option Addr} {n c : Nat} {xs : List Value} (x : Int) (h0 : 0 ≤ x) (h1 : x < 4294967296)
    (hr : Row w w.heap.size 1 (.slice A n c) n xs) (h1c : ∀ u ∈ xs, u.oneCell' = true) (hb : n + 4 ≤ 140737488355328) :
    Calls Try.prog 69 #[.slice A n c, .int .u32 x] w fun e w' =>
      e = .returned (.slice (some ⟨w.heap.size, 0, none⟩) (n + 4) (n + 4)) ∧ w'.ownsRow w.heap.size 5 1 (.slice (some ⟨w.heap.size, 0, none⟩) (n + 4) (n + 4)) (n + 4) (xs ++ quad x) ∧ Below w.heap.size w w' := by
  obtain ⟨i0, hi, hz0, hz1, hz2⟩ := info_parts info_u8
  have hl := hr.len
  have hcap := hr.cap
  have hby : i0.bytes * (n + 4) ≤ 281474976710656 := by rw [hz2]; omega
  have HZ := Lib.hid hz2
  clear hz2
  go_enter Try.func69, Try.ntmps69
  go_wp2_with (first
    | (at_make; refine wpList_make_own _ rfl _ _ 23 rfl w.heap.size 5 i0 (.int .u8 0) 1 Try.underlying23 hi hz0 hz1 _ _ _ (n + 4) rfl rfl (by omega) hby (by unfold maxLen; omega) (Nat.le_refl _) ?_; intro w1 hown1 hg1; have hb1 : Below w.heap.size w w1 := (Below.refl _ _).grown hg1 (Nat.le_refl _) (fun _ h => by cases h))
    | (at_builtin; refine wpList_append_fits_any _ rfl (.tmp 10) (.tmp 11) 23 rfl w.heap.size 5 i0 1 Try.underlying23 hi hz1 w.heap.size 0 (n + 4) [] rfl hown1 A n c xs rfl hl hr.bare (hr.below hb1).cells h1c (by omega) ?_; intro w2 hown2 hg2; simp only [Nat.zero_add, List.nil_append] at hown2)
    | (at_builtin; refine wpList_append_fits _ rfl (.tmp 13) (.tmp 25) 23 rfl w.heap.size 5 i0 1 Try.underlying23 hi hz1 w.heap.size n (n + 4) xs rfl (hown2.alloc _) ⟨w2.heap.size, 0, none⟩ 4 4 (quad x) rfl (quad_len x) (new_cells w2 _ _ _ rfl) (quad_one x) (by omega) ?_; intro w3 hown3 hg3))
  go_ret
  have hb2 := hb1.grown hg2 hb1.size own_ge'
  exact ⟨rfl, hown3, (hb2.alloc hb2.size _).grown hg3 (by have := hb2.size; simp; omega) own_ge'⟩

/-- The bytes, and behind them the word's, in memory of the call's own. -/
theorem put_any {w : World} {v : Value} {n : Nat} {xs : List Value} (x : Int) (h0 : 0 ≤ x) (h1 : x < 4294967296)
    (hr : Row w w.heap.size 1 v n xs) (h1c : ∀ u ∈ xs, u.oneCell' = true) (hb : n + 4 ≤ 140737488355328) :
    Calls Try.prog 69 #[v, .int .u32 x] w fun e w' =>
      e = .returned (.slice (some ⟨w.heap.size, 0, none⟩) (n + 4) (n + 4)) ∧ w'.ownsRow w.heap.size 5 1 (.slice (some ⟨w.heap.size, 0, none⟩) (n + 4) (n + 4)) (n + 4) (xs ++ quad x) ∧ Below w.heap.size w w' := by
  obtain ⟨A, c, rfl⟩ := hr.form
  exact put_form x h0 h1 hr h1c hb
end Go.Proofs.Ytdjllgdeijdieaa.Words

/- Contract of bytes.Store. -/
namespace Go.Proofs.Ytdjllgdeijdieaa.Words
set_option maxRecDepth 100000
open Go.RowKit
set_option linter.unusedVariables false

theorem splice_quad1 (zs : List Int) (k n : Nat) (v : Int) (hl : zs.length = n) (h : k + 1 ≤ n) : splice (zs.map (Value.int .u8)) k (((quad v).take 1).take (n - k)) = (put1 zs k v).map (Value.int .u8) := by
  rw [List.take_of_length_le (l := (quad v).take 1) (by simp [quad]; omega)]
  show splice _ _ [_] = _
  rw [splice_cons _ _ _ _ (by simp; omega), splice_nil, put1, List.map_set]
theorem splice_quad2 (zs : List Int) (k n : Nat) (v : Int) (hl : zs.length = n) (h : k + 2 ≤ n) : splice (zs.map (Value.int .u8)) k (((quad v).take 2).take (n - k)) = (put2 zs k v).map (Value.int .u8) := by
  rw [List.take_of_length_le (l := (quad v).take 2) (by simp [quad]; omega)]
  show splice _ _ [_, _] = _
  rw [splice_cons _ _ _ _ (by simp; omega), splice_cons _ _ _ _ (by simp; omega), splice_nil, put2, put1, List.map_set, List.map_set]
theorem splice_quad4 (zs : List Int) (k n : Nat) (v : Int) (hv : 0 ≤ v ∧ v ≤ 4294967295) (hl : zs.length = n) (h : k + 4 ≤ n) : splice (zs.map (Value.int .u8)) k (((quad v).take 4).take (n - k)) = (put4 zs k v).map (Value.int .u8) := by
  rw [List.take_of_length_le (l := (quad v).take 4) (by simp [quad]; omega)]
  show splice _ _ [_, _, _, _] = _
  rw [splice_cons _ _ _ _ (by simp; omega), splice_cons _ _ _ _ (by simp; omega), splice_cons _ _ _ _ (by simp; omega), splice_cons _ _ _ _ (by simp; omega), splice_nil, put4, put2, put1, List.map_set, List.map_set, List.map_set, List.map_set, show v / 16777216 % 256 = v / 16777216 by omega]

section
variable (A : Option Addr) (c n : Nat) (zs : List Int) (v : Int) (w : World)

set_option maxHeartbeats 1000000 in
theorem store_no (size addr : Int) (h : Row w w.heap.size 1 (.slice A n c) n (zs.map (Value.int .u8))) (hn : n ≤ 140737488355328) (hs : -9223372036854775808 ≤ size ∧ size ≤ 9223372036854775807) (hq : storeOk size addr n = false) :
    Calls Try.prog 63 #[.slice A n c, .agg #[.int .i64 addr, .int .i64 size, .int .u32 v]] w fun e w' => ∃ v', e = .returned v' ∧ w'.ownsRow w.heap.size 5 1 v' n ((zs).map (Value.int .u8)) ∧ Below w.heap.size w w' := by
  obtain ⟨i0, hi, hz0, hz1, hz2⟩ := info_parts info_u8
  have HZ2 := Lib.hid hz2
  clear hz2
  have hl : zs.length = n := by have := h.len; simpa using this
  obtain ⟨u1, u2⟩ := h.cap
  have hR := h.alloc (Nat.le_refl _) (.cells #[.int .i64 addr, .int .i64 size, .int .u32 v] 38)
  have hbase : w.heap.size + 1 ≤ (w.alloc (.cells #[.int .i64 addr, .int .i64 size, .int .u32 v] 38)).heap.size := by simp
  have HW := Lib.hid ((Below.refl w.heap.size w).alloc (Nat.le_refl _) (.cells #[.int .i64 addr, .int .i64 size, .int .u32 v] 38))
  have c0 : (w.alloc (.cells #[.int .i64 addr, .int .i64 size, .int .u32 v] 38)).cell? ⟨w.heap.size, 0, none⟩ = some (.int .i64 addr) := by go_simp
  have c1 : (w.alloc (.cells #[.int .i64 addr, .int .i64 size, .int .u32 v] 38)).cell? ⟨w.heap.size, 1, none⟩ = some (.int .i64 size) := by go_simp
  have c2 : (w.alloc (.cells #[.int .i64 addr, .int .i64 size, .int .u32 v] 38)).cell? ⟨w.heap.size, 2, none⟩ = some (.int .u32 v) := by go_simp
  have HQ := Lib.hid hq
  clear hq
  go_enter Try.func63, Try.ntmps63
  go_wp2_with (at_builtin; refine wpList_append_row _ rfl (.const (.slice none 0 0)) (.tmp 6) 23 rfl (w.heap.size + 1) 5 i0 (.int .u8 0) 1 1 Try.underlying23 hi hz0 hz1 HZ2.out rfl (by omega) (.slice none 0 0) 0 [] rfl (World.ownsRow_nil _ _ _ _) _ _ n _ rfl hR (u8_one _) (by unfold maxLen; omega) (by omega) hbase ?_; intro v1 w1 hown1 hg1; simp only [Nat.zero_add, List.nil_append] at hown1; have k1 : Below (w.heap.size + 1) (w.alloc (.cells #[.int .i64 addr, .int .i64 size, .int .u32 v] 38)) w1 := Below.grown (Below.refl _ _) hg1 hbase (fun k hk => by cases hk); have d0 := below_cell k1 (Nat.lt_succ_self _) c0; have d1 := below_cell k1 (Nat.lt_succ_self _) c1; have d2 := below_cell k1 (Nat.lt_succ_self _) c2)
  refine (bfits_any addr size v n _ hs (by omega)).mono ?_; rintro e w2 ⟨rfl, hb2⟩
  rw [HQ.out]
  go_wp2_with fail
  go_ret
  exact ⟨_, rfl, own_base (own_below hown1 hb2) (Nat.le_succ _), (HW.out.trans (k1.mono (Nat.le_succ _))).trans (hb2.mono (by have := k1.size; simp at this; omega))⟩

set_option maxHeartbeats 1000000 in
theorem store_yes1 (k : Nat) (h : Row w w.heap.size 1 (.slice A n c) n (zs.map (Value.int .u8))) (hn : n ≤ 140737488355328) (hk : (k : Int) ≤ 4294967295) (hv : 0 ≤ v ∧ v ≤ 4294967295) (hck : checkZ 1 k n = 0) :
    Calls Try.prog 63 #[.slice A n c, .agg #[.int .i64 (k : Int), .int .i64 1, .int .u32 v]] w fun e w' => ∃ v', e = .returned v' ∧ w'.ownsRow w.heap.size 5 1 v' n ((put1 zs k v).map (Value.int .u8)) ∧ Below w.heap.size w w' := by
  obtain ⟨_, hr⟩ := checkZ_zero hck
  have HQ := Lib.hid (show storeOk 1 k n = true from decide_eq_true ⟨by omega, by omega, hk, hck⟩)
  have hkn : k + 1 ≤ n := by omega
  have hk0 : (0 : Int) ≤ k := by omega
  obtain ⟨v0, v9⟩ := hv
  clear hck
  obtain ⟨i0, hi, hz0, hz1, hz2⟩ := info_parts info_u8
  have HZ2 := Lib.hid hz2
  clear hz2
  have hl : zs.length = n := by have := h.len; simpa using this
  obtain ⟨u1, u2⟩ := h.cap
  have hR := h.alloc (Nat.le_refl _) (.cells #[.int .i64 (k : Int), .int .i64 1, .int .u32 v] 38)
  have hbase : w.heap.size + 1 ≤ (w.alloc (.cells #[.int .i64 (k : Int), .int .i64 1, .int .u32 v] 38)).heap.size := by simp
  have HW := Lib.hid ((Below.refl w.heap.size w).alloc (Nat.le_refl _) (.cells #[.int .i64 (k : Int), .int .i64 1, .int .u32 v] 38))
  have c0 : (w.alloc (.cells #[.int .i64 (k : Int), .int .i64 1, .int .u32 v] 38)).cell? ⟨w.heap.size, 0, none⟩ = some (.int .i64 (k : Int)) := by go_simp
  have c1 : (w.alloc (.cells #[.int .i64 (k : Int), .int .i64 1, .int .u32 v] 38)).cell? ⟨w.heap.size, 1, none⟩ = some (.int .i64 1) := by go_simp
  have c2 : (w.alloc (.cells #[.int .i64 (k : Int), .int .i64 1, .int .u32 v] 38)).cell? ⟨w.heap.size, 2, none⟩ = some (.int .u32 v) := by go_simp
  go_enter Try.func63, Try.ntmps63
  go_wp2_with (at_builtin; refine wpList_append_row _ rfl (.const (.slice none 0 0)) (.tmp 6) 23 rfl (w.heap.size + 1) 5 i0 (.int .u8 0) 1 1 Try.underlying23 hi hz0 hz1 HZ2.out rfl (by omega) (.slice none 0 0) 0 [] rfl (World.ownsRow_nil _ _ _ _) _ _ n _ rfl hR (u8_one _) (by unfold maxLen; omega) (by omega) hbase ?_; intro v1 w1 hown1 hg1; simp only [Nat.zero_add, List.nil_append] at hown1; have k1 : Below (w.heap.size + 1) (w.alloc (.cells #[.int .i64 (k : Int), .int .i64 1, .int .u32 v] 38)) w1 := Below.grown (Below.refl _ _) hg1 hbase (fun k hk => by cases hk); have d0 := below_cell k1 (Nat.lt_succ_self _) c0; have d1 := below_cell k1 (Nat.lt_succ_self _) c1; have d2 := below_cell k1 (Nat.lt_succ_self _) c2)
  refine (bfits_any k 1 v n _ (by omega) (by omega)).mono ?_; rintro e w2 ⟨rfl, hb2⟩
  rw [HQ.out]
  obtain ⟨g, cap, rfl, hg, hgs⟩ := own_form hown1 (by omega)
  have hz1 : w.heap.size + 1 ≤ w1.heap.size := by have := k1.size; simp at this; omega
  have e0 := below_cell hb2 (by omega) d0
  have e1 := below_cell hb2 (by omega) d1
  have e2 := below_cell hb2 (by omega) d2
  have hown2 := own_below hown1 hb2
  obtain ⟨cur, hgcur, _, hcap1, hcap2, _⟩ := own_block hown2
  have hcap3 : cap ≤ 9223372036854775807 := by unfold maxLen at hcap2; omega
  have HB := Lib.hid ((HW.out.trans (k1.mono (Nat.le_succ _))).trans (hb2.mono (by have := k1.size; simp at this; omega)))
  have hz2 : w.heap.size < w2.heap.size := by have := hb2.size; omega
  clear hb2 d0 d1 d2 c0 c1 c2 k1 hR hown1
  go_wp2_with fail
  have f0 : ∀ x, Below (w.heap.size + 1) w2 x → _ := fun x hx => below_cell hx (Nat.lt_succ_self _) e0
  have f1 : ∀ x, Below (w.heap.size + 1) w2 x → _ := fun x hx => below_cell hx (Nat.lt_succ_self _) e1
  have f2 : ∀ x, Below (w.heap.size + 1) w2 x → _ := fun x hx => below_cell hx (Nat.lt_succ_self _) e2
  have i0' : Kept w2 w2.drew := (Kept.refl w2).drew
  have j0 : Below (w.heap.size + 1) w2 w2.drew := Below.drew (Below.refl _ _)
  clear e0 e1 e2
  refine wp_region_lin [(0, true), (1, true), (2, true), (3, true), (4, true), (5, true), (7, true), (8, true), (6, false), (9, true), (10, false)]
    (by kernel_rfl) (by kernel_rfl) rfl (by kernel_rfl) (Below (w.heap.size + 1) w2) ?_
  simp only [List.map_cons, List.map_nil, List.getElem?_toArray, List.getElem?_cons_succ, List.getElem?_cons_zero]
  iterate 3 (refine lin_take (v := ?_) (by assumption) (by rfl) ?_ ?_; rotate_left; (intro x hx; (try dsimp only at hx); go_simp; try (with_reducible rfl)); (simp only [Act.put, List.setIfInBounds_toArray, List.set_cons_zero, List.set_cons_succ]))
  refine lin_take (v := .slice (some ⟨g, k, none⟩) (n - k) (cap - k)) (by assumption) (by rfl) (fun x hx => ?_) ?_
  · go_simp
    rw [if_pos (show k ≤ n by omega), if_neg (show ¬ cap = k by omega)]
  simp only [Act.put, List.setIfInBounds_toArray, List.set_cons_zero, List.set_cons_succ]
  iterate 4 (refine lin_take (v := ?_) (by assumption) (by rfl) ?_ ?_; rotate_left; (intro x hx; (try dsimp only at hx); go_simp; try (with_reducible rfl)); (simp only [Act.put, List.setIfInBounds_toArray, List.set_cons_zero, List.set_cons_succ]))
  refine lin_call (by assumption) (by rfl) (fun K hK => ?_)
  go_simp
  refine (put_any v v0 (by omega) (Row.nil _ _ _) (by simp) (by omega)).mono ?_; rintro e x3 ⟨rfl, own3, hb3⟩
  have i3 := i0'.to hb3
  have j3 : Below (w.heap.size + 1) w2 x3 := Below.mono i3 hz2
  go_wp2_with fail
  refine hK.out _ _ j3 (fun _ => ?_)
  clear hK K
  try simp only [Act.put, List.setIfInBounds_toArray, List.set_cons_zero, List.set_cons_succ]
  have hg2 : g < w2.heap.size := by have := (Array.getElem?_eq_some_iff.1 hgcur).1; exact this
  have own4 := own_below hown2 i3
  have row4 := (Row.of_own own3)
  clear hb3 own3
  refine lin_take (v := .slice (some ⟨w2.heap.size, 0, none⟩) 1 4) (by assumption) (by rfl) (fun x hx => ?_) ?_
  · go_simp
  simp only [Act.put, List.setIfInBounds_toArray, List.set_cons_zero, List.set_cons_succ]
  refine lin_call (by assumption) (by rfl) (fun K hK => ?_)
  refine wp_copy_rows (.tmp 17) (.tmp 23) 23 23 rfl 5 Try.underlying23 (by kernel_rfl) (w.heap.size + 1) g n cap k (n - k) (cap - k) _ own4 (by go_simp) _ 1 4 _ _ (by go_simp) (row4.cut (k := 0) (m := 1) (by omega) (by omega)) (fun u hu => quad_one v u (List.mem_of_mem_take (by simpa using hu))) (by omega) ?_
  intro x5 own5 hb5
  refine hK.out _ _ (j3.trans (hb5.mono hg)) (fun _ => ?_)
  clear hK K
  try simp only [Act.put, List.setIfInBounds_toArray, List.set_cons_zero, List.set_cons_succ]
  refine lin_done ?_
  go_wp2_with fail
  go_ret
  rw [List.nil_append, List.drop_zero, splice_quad1 zs k n v hl (by omega)] at own5
  exact ⟨_, rfl, own_base own5 (Nat.le_succ _), HB.out.trans ((j3.trans (hb5.mono hg)).mono (Nat.le_succ _))⟩

set_option maxHeartbeats 1000000 in
theorem store_yes2 (k : Nat) (h : Row w w.heap.size 1 (.slice A n c) n (zs.map (Value.int .u8))) (hn : n ≤ 140737488355328) (hk : (k : Int) ≤ 4294967295) (hv : 0 ≤ v ∧ v ≤ 4294967295) (hck : checkZ 2 k n = 0) :
    Calls Try.prog 63 #[.slice A n c, .agg #[.int .i64 (k : Int), .int .i64 2, .int .u32 v]] w fun e w' => ∃ v', e = .returned v' ∧ w'.ownsRow w.heap.size 5 1 v' n ((put2 zs k v).map (Value.int .u8)) ∧ Below w.heap.size w w' := by
  obtain ⟨_, hr⟩ := checkZ_zero hck
  have HQ := Lib.hid (show storeOk 2 k n = true from decide_eq_true ⟨by omega, by omega, hk, hck⟩)
  have hkn : k + 2 ≤ n := by omega
  have hk0 : (0 : Int) ≤ k := by omega
  obtain ⟨v0, v9⟩ := hv
  clear hck
  obtain ⟨i0, hi, hz0, hz1, hz2⟩ := info_parts info_u8
  have HZ2 := Lib.hid hz2
  clear hz2
  have hl : zs.length = n := by have := h.len; simpa using this
  obtain ⟨u1, u2⟩ := h.cap
  have hR := h.alloc (Nat.le_refl _) (.cells #[.int .i64 (k : Int), .int .i64 2, .int .u32 v] 38)
  have hbase : w.heap.size + 1 ≤ (w.alloc (.cells #[.int .i64 (k : Int), .int .i64 2, .int .u32 v] 38)).heap.size := by simp
  have HW := Lib.hid ((Below.refl w.heap.size w).alloc (Nat.le_refl _) (.cells #[.int .i64 (k : Int), .int .i64 2, .int .u32 v] 38))
  have c0 : (w.alloc (.cells #[.int .i64 (k : Int), .int .i64 2, .int .u32 v] 38)).cell? ⟨w.heap.size, 0, none⟩ = some (.int .i64 (k : Int)) := by go_simp
  have c1 : (w.alloc (.cells #[.int .i64 (k : Int), .int .i64 2, .int .u32 v] 38)).cell? ⟨w.heap.size, 1, none⟩ = some (.int .i64 2) := by go_simp
  have c2 : (w.alloc (.cells #[.int .i64 (k : Int), .int .i64 2, .int .u32 v] 38)).cell? ⟨w.heap.size, 2, none⟩ = some (.int .u32 v) := by go_simp
  go_enter Try.func63, Try.ntmps63
  go_wp2_with (at_builtin; refine wpList_append_row _ rfl (.const (.slice none 0 0)) (.tmp 6) 23 rfl (w.heap.size + 1) 5 i0 (.int .u8 0) 1 1 Try.underlying23 hi hz0 hz1 HZ2.out rfl (by omega) (.slice none 0 0) 0 [] rfl (World.ownsRow_nil _ _ _ _) _ _ n _ rfl hR (u8_one _) (by unfold maxLen; omega) (by omega) hbase ?_; intro v1 w1 hown1 hg1; simp only [Nat.zero_add, List.nil_append] at hown1; have k1 : Below (w.heap.size + 1) (w.alloc (.cells #[.int .i64 (k : Int), .int .i64 2, .int .u32 v] 38)) w1 := Below.grown (Below.refl _ _) hg1 hbase (fun k hk => by cases hk); have d0 := below_cell k1 (Nat.lt_succ_self _) c0; have d1 := below_cell k1 (Nat.lt_succ_self _) c1; have d2 := below_cell k1 (Nat.lt_succ_self _) c2)
  refine (bfits_any k 2 v n _ (by omega) (by omega)).mono ?_; rintro e w2 ⟨rfl, hb2⟩
  rw [HQ.out]
  obtain ⟨g, cap, rfl, hg, hgs⟩ := own_form hown1 (by omega)
  have hz1 : w.heap.size + 1 ≤ w1.heap.size := by have := k1.size; simp at this; omega
  have e0 := below_cell hb2 (by omega) d0
  have e1 := below_cell hb2 (by omega) d1
  have e2 := below_cell hb2 (by omega) d2
  have hown2 := own_below hown1 hb2
  obtain ⟨cur, hgcur, _, hcap1, hcap2, _⟩ := own_block hown2
  have hcap3 : cap ≤ 9223372036854775807 := by unfold maxLen at hcap2; omega
  have HB := Lib.hid ((HW.out.trans (k1.mono (Nat.le_succ _))).trans (hb2.mono (by have := k1.size; simp at this; omega)))
  have hz2 : w.heap.size < w2.heap.size := by have := hb2.size; omega
  clear hb2 d0 d1 d2 c0 c1 c2 k1 hR hown1
  go_wp2_with fail
  have f0 : ∀ x, Below (w.heap.size + 1) w2 x → _ := fun x hx => below_cell hx (Nat.lt_succ_self _) e0
  have f1 : ∀ x, Below (w.heap.size + 1) w2 x → _ := fun x hx => below_cell hx (Nat.lt_succ_self _) e1
  have f2 : ∀ x, Below (w.heap.size + 1) w2 x → _ := fun x hx => below_cell hx (Nat.lt_succ_self _) e2
  have i0' : Kept w2 w2.drew := (Kept.refl w2).drew
  have j0 : Below (w.heap.size + 1) w2 w2.drew := Below.drew (Below.refl _ _)
  clear e0 e1 e2
  refine wp_region_lin [(0, true), (1, true), (2, true), (3, true), (4, true), (5, true), (7, true), (8, true), (6, false), (9, true), (10, false)]
    (by kernel_rfl) (by kernel_rfl) rfl (by kernel_rfl) (Below (w.heap.size + 1) w2) ?_
  simp only [List.map_cons, List.map_nil, List.getElem?_toArray, List.getElem?_cons_succ, List.getElem?_cons_zero]
  iterate 3 (refine lin_take (v := ?_) (by assumption) (by rfl) ?_ ?_; rotate_left; (intro x hx; (try dsimp only at hx); go_simp; try (with_reducible rfl)); (simp only [Act.put, List.setIfInBounds_toArray, List.set_cons_zero, List.set_cons_succ]))
  refine lin_take (v := .slice (some ⟨g, k, none⟩) (n - k) (cap - k)) (by assumption) (by rfl) (fun x hx => ?_) ?_
  · go_simp
    rw [if_pos (show k ≤ n by omega), if_neg (show ¬ cap = k by omega)]
  simp only [Act.put, List.setIfInBounds_toArray, List.set_cons_zero, List.set_cons_succ]
  iterate 4 (refine lin_take (v := ?_) (by assumption) (by rfl) ?_ ?_; rotate_left; (intro x hx; (try dsimp only at hx); go_simp; try (with_reducible rfl)); (simp only [Act.put, List.setIfInBounds_toArray, List.set_cons_zero, List.set_cons_succ]))
  refine lin_call (by assumption) (by rfl) (fun K hK => ?_)
  go_simp
  refine (put_any v v0 (by omega) (Row.nil _ _ _) (by simp) (by omega)).mono ?_; rintro e x3 ⟨rfl, own3, hb3⟩
  have i3 := i0'.to hb3
  have j3 : Below (w.heap.size + 1) w2 x3 := Below.mono i3 hz2
  go_wp2_with fail
  refine hK.out _ _ j3 (fun _ => ?_)
  clear hK K
  try simp only [Act.put, List.setIfInBounds_toArray, List.set_cons_zero, List.set_cons_succ]
  have hg2 : g < w2.heap.size := by have := (Array.getElem?_eq_some_iff.1 hgcur).1; exact this
  have own4 := own_below hown2 i3
  have row4 := (Row.of_own own3)
  clear hb3 own3
  refine lin_take (v := .slice (some ⟨w2.heap.size, 0, none⟩) 2 4) (by assumption) (by rfl) (fun x hx => ?_) ?_
  · go_simp
  simp only [Act.put, List.setIfInBounds_toArray, List.set_cons_zero, List.set_cons_succ]
  refine lin_call (by assumption) (by rfl) (fun K hK => ?_)
  refine wp_copy_rows (.tmp 17) (.tmp 23) 23 23 rfl 5 Try.underlying23 (by kernel_rfl) (w.heap.size + 1) g n cap k (n - k) (cap - k) _ own4 (by go_simp) _ 2 4 _ _ (by go_simp) (row4.cut (k := 0) (m := 2) (by omega) (by omega)) (fun u hu => quad_one v u (List.mem_of_mem_take (by simpa using hu))) (by omega) ?_
  intro x5 own5 hb5
  refine hK.out _ _ (j3.trans (hb5.mono hg)) (fun _ => ?_)
  clear hK K
  try simp only [Act.put, List.setIfInBounds_toArray, List.set_cons_zero, List.set_cons_succ]
  refine lin_done ?_
  go_wp2_with fail
  go_ret
  rw [List.nil_append, List.drop_zero, splice_quad2 zs k n v hl (by omega)] at own5
  exact ⟨_, rfl, own_base own5 (Nat.le_succ _), HB.out.trans ((j3.trans (hb5.mono hg)).mono (Nat.le_succ _))⟩

set_option maxHeartbeats 1000000 in
theorem store_yes4 (k : Nat) (h : Row w w.heap.size 1 (.slice A n c) n (zs.map (Value.int .u8))) (hn : n ≤ 140737488355328) (hk : (k : Int) ≤ 4294967295) (hv : 0 ≤ v ∧ v ≤ 4294967295) (hck : checkZ 4 k n = 0) :
    Calls Try.prog 63 #[.slice A n c, .agg #[.int .i64 (k : Int), .int .i64 4, .int .u32 v]] w fun e w' => ∃ v', e = .returned v' ∧ w'.ownsRow w.heap.size 5 1 v' n ((put4 zs k v).map (Value.int .u8)) ∧ Below w.heap.size w w' := by
  obtain ⟨_, hr⟩ := checkZ_zero hck
  have HQ := Lib.hid (show storeOk 4 k n = true from decide_eq_true ⟨by omega, by omega, hk, hck⟩)
  have hkn : k + 4 ≤ n := by omega
  have hk0 : (0 : Int) ≤ k := by omega
  obtain ⟨v0, v9⟩ := hv
  clear hck
  obtain ⟨i0, hi, hz0, hz1, hz2⟩ := info_parts info_u8
  have HZ2 := Lib.hid hz2
  clear hz2
  have hl : zs.length = n := by have := h.len; simpa using this
  obtain ⟨u1, u2⟩ := h.cap
  have hR := h.alloc (Nat.le_refl _) (.cells #[.int .i64 (k : Int), .int .i64 4, .int .u32 v] 38)
  have hbase : w.heap.size + 1 ≤ (w.alloc (.cells #[.int .i64 (k : Int), .int .i64 4, .int .u32 v] 38)).heap.size := by simp
  have HW := Lib.hid ((Below.refl w.heap.size w).alloc (Nat.le_refl _) (.cells #[.int .i64 (k : Int), .int .i64 4, .int .u32 v] 38))
  have c0 : (w.alloc (.cells #[.int .i64 (k : Int), .int .i64 4, .int .u32 v] 38)).cell? ⟨w.heap.size, 0, none⟩ = some (.int .i64 (k : Int)) := by go_simp
  have c1 : (w.alloc (.cells #[.int .i64 (k : Int), .int .i64 4, .int .u32 v] 38)).cell? ⟨w.heap.size, 1, none⟩ = some (.int .i64 4) := by go_simp
  have c2 : (w.alloc (.cells #[.int .i64 (k : Int), .int .i64 4, .int .u32 v] 38)).cell? ⟨w.heap.size, 2, none⟩ = some (.int .u32 v) := by go_simp
  go_enter Try.func63, Try.ntmps63
  go_wp2_with (at_builtin; refine wpList_append_row _ rfl (.const (.slice none 0 0)) (.tmp 6) 23 rfl (w.heap.size + 1) 5 i0 (.int .u8 0) 1 1 Try.underlying23 hi hz0 hz1 HZ2.out rfl (by omega) (.slice none 0 0) 0 [] rfl (World.ownsRow_nil _ _ _ _) _ _ n _ rfl hR (u8_one _) (by unfold maxLen; omega) (by omega) hbase ?_; intro v1 w1 hown1 hg1; simp only [Nat.zero_add, List.nil_append] at hown1; have k1 : Below (w.heap.size + 1) (w.alloc (.cells #[.int .i64 (k : Int), .int .i64 4, .int .u32 v] 38)) w1 := Below.grown (Below.refl _ _) hg1 hbase (fun k hk => by cases hk); have d0 := below_cell k1 (Nat.lt_succ_self _) c0; have d1 := below_cell k1 (Nat.lt_succ_self _) c1; have d2 := below_cell k1 (Nat.lt_succ_self _) c2)
  refine (bfits_any k 4 v n _ (by omega) (by omega)).mono ?_; rintro e w2 ⟨rfl, hb2⟩
  rw [HQ.out]
  obtain ⟨g, cap, rfl, hg, hgs⟩ := own_form hown1 (by omega)
  have hz1 : w.heap.size + 1 ≤ w1.heap.size := by have := k1.size; simp at this; omega
  have e0 := below_cell hb2 (by omega) d0
  have e1 := below_cell hb2 (by omega) d1
  have e2 := below_cell hb2 (by omega) d2
  have hown2 := own_below hown1 hb2
  obtain ⟨cur, hgcur, _, hcap1, hcap2, _⟩ := own_block hown2
  have hcap3 : cap ≤ 9223372036854775807 := by unfold maxLen at hcap2; omega
  have HB := Lib.hid ((HW.out.trans (k1.mono (Nat.le_succ _))).trans (hb2.mono (by have := k1.size; simp at this; omega)))
  have hz2 : w.heap.size < w2.heap.size := by have := hb2.size; omega
  clear hb2 d0 d1 d2 c0 c1 c2 k1 hR hown1
  go_wp2_with fail
  have f0 : ∀ x, Below (w.heap.size + 1) w2 x → _ := fun x hx => below_cell hx (Nat.lt_succ_self _) e0
  have f1 : ∀ x, Below (w.heap.size + 1) w2 x → _ := fun x hx => below_cell hx (Nat.lt_succ_self _) e1
  have f2 : ∀ x, Below (w.heap.size + 1) w2 x → _ := fun x hx => below_cell hx (Nat.lt_succ_self _) e2
  have i0' : Kept w2 w2.drew := (Kept.refl w2).drew
  have j0 : Below (w.heap.size + 1) w2 w2.drew := Below.drew (Below.refl _ _)
  clear e0 e1 e2
  refine wp_region_lin [(0, true), (1, true), (2, true), (3, true), (4, true), (5, true), (7, true), (8, true), (6, false), (9, true), (10, false)]
    (by kernel_rfl) (by kernel_rfl) rfl (by kernel_rfl) (Below (w.heap.size + 1) w2) ?_
  simp only [List.map_cons, List.map_nil, List.getElem?_toArray, List.getElem?_cons_succ, List.getElem?_cons_zero]
  iterate 3 (refine lin_take (v := ?_) (by assumption) (by rfl) ?_ ?_; rotate_left; (intro x hx; (try dsimp only at hx); go_simp; try (with_reducible rfl)); (simp only [Act.put, List.setIfInBounds_toArray, List.set_cons_zero, List.set_cons_succ]))
  refine lin_take (v := .slice (some ⟨g, k, none⟩) (n - k) (cap - k)) (by assumption) (by rfl) (fun x hx => ?_) ?_
  · go_simp
    rw [if_pos (show k ≤ n by omega), if_neg (show ¬ cap = k by omega)]
  simp only [Act.put, List.setIfInBounds_toArray, List.set_cons_zero, List.set_cons_succ]
  iterate 4 (refine lin_take (v := ?_) (by assumption) (by rfl) ?_ ?_; rotate_left; (intro x hx; (try dsimp only at hx); go_simp; try (with_reducible rfl)); (simp only [Act.put, List.setIfInBounds_toArray, List.set_cons_zero, List.set_cons_succ]))
  refine lin_call (by assumption) (by rfl) (fun K hK => ?_)
  go_simp
  refine (put_any v v0 (by omega) (Row.nil _ _ _) (by simp) (by omega)).mono ?_; rintro e x3 ⟨rfl, own3, hb3⟩
  have i3 := i0'.to hb3
  have j3 : Below (w.heap.size + 1) w2 x3 := Below.mono i3 hz2
  go_wp2_with fail
  refine hK.out _ _ j3 (fun _ => ?_)
  clear hK K
  try simp only [Act.put, List.setIfInBounds_toArray, List.set_cons_zero, List.set_cons_succ]
  have hg2 : g < w2.heap.size := by have := (Array.getElem?_eq_some_iff.1 hgcur).1; exact this
  have own4 := own_below hown2 i3
  have row4 := (Row.of_own own3)
  clear hb3 own3
  refine lin_take (v := .slice (some ⟨w2.heap.size, 0, none⟩) 4 4) (by assumption) (by rfl) (fun x hx => ?_) ?_
  · go_simp
  simp only [Act.put, List.setIfInBounds_toArray, List.set_cons_zero, List.set_cons_succ]
  refine lin_call (by assumption) (by rfl) (fun K hK => ?_)
  refine wp_copy_rows (.tmp 17) (.tmp 23) 23 23 rfl 5 Try.underlying23 (by kernel_rfl) (w.heap.size + 1) g n cap k (n - k) (cap - k) _ own4 (by go_simp) _ 4 4 _ _ (by go_simp) (row4.cut (k := 0) (m := 4) (by omega) (by omega)) (fun u hu => quad_one v u (List.mem_of_mem_take (by simpa using hu))) (by omega) ?_
  intro x5 own5 hb5
  refine hK.out _ _ (j3.trans (hb5.mono hg)) (fun _ => ?_)
  clear hK K
  try simp only [Act.put, List.setIfInBounds_toArray, List.set_cons_zero, List.set_cons_succ]
  refine lin_done ?_
  go_wp2_with fail
  go_ret
  rw [List.nil_append, List.drop_zero, splice_quad4 zs k n v ⟨v0, v9⟩ hl (by omega)] at own5
  exact ⟨_, rfl, own_base own5 (Nat.le_succ _), HB.out.trans ((j3.trans (hb5.mono hg)).mono (Nat.le_succ _))⟩

theorem store_any (size addr : Int) (h : Row w w.heap.size 1 (.slice A n c) n (zs.map (Value.int .u8))) (hn : n ≤ 140737488355328) (hs : -9223372036854775808 ≤ size ∧ size ≤ 9223372036854775807) (hv : 0 ≤ v ∧ v ≤ 4294967295) :
    Calls Try.prog 63 #[.slice A n c, .agg #[.int .i64 addr, .int .i64 size, .int .u32 v]] w fun e w' => ∃ v', e = .returned v' ∧ w'.ownsRow w.heap.size 5 1 v' n ((storeZ zs size addr v).map (Value.int .u8)) ∧ Below w.heap.size w w' := by
  have hl : zs.length = n := by have := h.len; simpa using this
  cases hq : storeOk size addr n
  · rw [storeZ_no (by rw [hl]; exact hq)]
    exact store_no A c n zs v w size addr h hn hs hq
  · obtain ⟨hsz, h0, h1, hck⟩ := storeOk_yes hq
    obtain ⟨k, rfl⟩ := Int.eq_ofNat_of_zero_le h0
    unfold storeZ
    rw [if_pos (by rw [hl]; exact hq)]
    rcases hsz with rfl | rfl | rfl
    · exact store_yes1 A c n zs v w k h hn h1 hv hck
    · exact store_yes2 A c n zs v w k h hn h1 hv hck
    · exact store_yes4 A c n zs v w k h hn h1 hv hck
end
end Go.Proofs.Ytdjllgdeijdieaa.Words

/- Plain mathematics of chapter 5: what a write leaves, byte by byte. Nothing here speaks of one program text. -/
namespace Go.Proofs.Ytdjllgdeijdieaa.Words
set_option maxRecDepth 100000
open Go.RowKit
set_option linter.unusedVariables false

/-- A word's bytes, the lowest first. -/
def byteZ (v : Int) (j : Nat) : Int := if j = 0 then v % 256 else if j = 1 then v / 256 % 256 else if j = 2 then v / 65536 % 256 else v / 16777216 % 256
theorem set_at (zs : List Int) (k i : Nat) (x : Int) (h : k < zs.length) : (zs.set k x).getD i 0 = if i = k then x else zs.getD i 0 := by
  rw [List.getD_eq_getElem?_getD, List.getD_eq_getElem?_getD, List.getElem?_set]
  by_cases hi : i = k
  · subst hi; simp [h]
  · rw [if_neg (fun h => hi h.symm), if_neg hi]
theorem put1_at (zs : List Int) (k i : Nat) (v : Int) (h : k + 1 ≤ zs.length) : (put1 zs k v).getD i 0 = if k ≤ i ∧ i < k + 1 then byteZ v (i - k) else zs.getD i 0 := by
  unfold put1
  rw [set_at _ _ _ _ (by omega)]
  by_cases hi : i = k
  · rw [if_pos hi, if_pos (by omega), show i - k = 0 by omega]; rfl
  · rw [if_neg hi, if_neg (by omega)]
theorem put2_at (zs : List Int) (k i : Nat) (v : Int) (h : k + 2 ≤ zs.length) : (put2 zs k v).getD i 0 = if k ≤ i ∧ i < k + 2 then byteZ v (i - k) else zs.getD i 0 := by
  unfold put2
  rw [set_at _ _ _ _ (by unfold put1; simp; omega), put1_at _ _ _ _ (by omega)]
  by_cases hi : i = k + 1
  · rw [if_pos hi, if_pos (by omega), show i - k = 1 by omega]; rfl
  · rw [if_neg hi]
    by_cases h2 : k ≤ i ∧ i < k + 1
    · rw [if_pos h2, if_pos (by omega)]
    · rw [if_neg h2, if_neg (by omega)]
theorem put4_at (zs : List Int) (k i : Nat) (v : Int) (h : k + 4 ≤ zs.length) : (put4 zs k v).getD i 0 = if k ≤ i ∧ i < k + 4 then byteZ v (i - k) else zs.getD i 0 := by
  unfold put4
  rw [set_at _ _ _ _ (by unfold put2 put1; simp; omega), set_at _ _ _ _ (by unfold put2 put1; simp; omega), put2_at _ _ _ _ (by omega)]
  by_cases hi : i = k + 3
  · rw [if_pos hi, if_pos (by omega), show i - k = 3 by omega]; rfl
  by_cases hj : i = k + 2
  · rw [if_neg hi, if_pos hj, if_pos (by omega), show i - k = 2 by omega]; rfl
  · rw [if_neg hi, if_neg hj]
    by_cases h2 : k ≤ i ∧ i < k + 2
    · rw [if_pos h2, if_pos (by omega)]
    · rw [if_neg h2, if_neg (by omega)]
theorem storeZ_at (zs : List Int) (size addr v : Int) (i : Nat) (h : storeOk size addr zs.length = true) : (storeZ zs size addr v).getD i 0 = if addr ≤ i ∧ (i : Int) < addr + size then byteZ v (i - addr.toNat) else zs.getD i 0 := by
  obtain ⟨hs, h0, h1, hc⟩ := storeOk_yes h
  have hr := (checkZ_zero hc).2
  obtain ⟨k, rfl⟩ := Int.eq_ofNat_of_zero_le h0
  unfold storeZ
  rw [if_pos h, Int.toNat_natCast]
  rcases hs with rfl | rfl | rfl
  · rw [if_pos rfl, put1_at _ _ _ _ (by omega)]
    by_cases hi : k ≤ i ∧ i < k + 1
    · rw [if_pos hi, if_pos (by omega)]
    · rw [if_neg hi, if_neg (by omega)]
  · rw [if_neg (by omega), if_pos rfl, put2_at _ _ _ _ (by omega)]
    by_cases hi : k ≤ i ∧ i < k + 2
    · rw [if_pos hi, if_pos (by omega)]
    · rw [if_neg hi, if_neg (by omega)]
  · rw [if_neg (by omega), if_neg (by omega), put4_at _ _ _ _ (by omega)]
    by_cases hi : k ≤ i ∧ i < k + 4
    · rw [if_pos hi, if_pos (by omega)]
    · rw [if_neg hi, if_neg (by omega)]
theorem ext_getD {l l' : List Int} (h : l.length = l'.length) (hi : ∀ i, l.getD i 0 = l'.getD i 0) : l = l' := by
  refine List.ext_getElem h fun i h1 h2 => ?_
  have := hi i
  rw [List.getD_eq_getElem?_getD, List.getD_eq_getElem?_getD, List.getElem?_eq_getElem h1, List.getElem?_eq_getElem h2] at this
  exact this
theorem store_swap (zs : List Int) (s a v s' a' v' : Int) (h : overlapB a s a' s' = false) : storeZ (storeZ zs s a v) s' a' v' = storeZ (storeZ zs s' a' v') s a v := by
  cases h1 : storeOk s a zs.length
  · rw [storeZ_no h1, storeZ_no (zs := storeZ zs s' a' v') (by rw [storeZ_len]; exact h1)]
  cases h2 : storeOk s' a' zs.length
  · rw [storeZ_no h2, storeZ_no (zs := storeZ zs s a v) (by rw [storeZ_len]; exact h2)]
  refine ext_getD (by simp only [storeZ_len]) fun i => ?_
  rw [storeZ_at _ _ _ _ _ (by rw [storeZ_len]; exact h2), storeZ_at _ _ _ _ _ h1, storeZ_at _ _ _ _ _ (by rw [storeZ_len]; exact h1), storeZ_at _ _ _ _ _ h2]
  have ho : ¬ (1 ≤ s ∧ 1 ≤ s' ∧ a < a' + s' ∧ a' < a + s) := of_decide_eq_false h
  by_cases x : a' ≤ i ∧ (i : Int) < a' + s'
  · rw [if_pos x, if_neg (by omega), if_pos x]
  · rw [if_neg x]
    by_cases y : a ≤ i ∧ (i : Int) < a + s
    · rw [if_pos y, if_pos y]
    · rw [if_neg y, if_neg y, if_neg x]
theorem store_over (zs : List Int) (s a u v : Int) : storeZ (storeZ zs s a u) s a v = storeZ zs s a v := by
  cases h1 : storeOk s a zs.length
  · rw [storeZ_no h1, storeZ_no h1]
  refine ext_getD (by simp only [storeZ_len]) fun i => ?_
  rw [storeZ_at _ _ _ _ _ (by rw [storeZ_len]; exact h1), storeZ_at _ _ _ _ _ h1, storeZ_at _ _ _ _ _ h1]
  by_cases y : a ≤ i ∧ (i : Int) < a + s
  · rw [if_pos y, if_pos y]
  · rw [if_neg y, if_neg y, if_neg y]
end Go.Proofs.Ytdjllgdeijdieaa.Words

/- Contract of package seq: lay, which turns memory on the spot. -/
namespace Go.Proofs.Ytdjllgdeijdieaa.Words
set_option maxRecDepth 100000
open Go.RowKit
set_option linter.unusedVariables false

theorem splice_getD (xs ys : List Int) (k i : Nat) (h : k + ys.length ≤ xs.length) : (splice xs k ys).getD i 0 = if k ≤ i ∧ i < k + ys.length then ys.getD (i - k) 0 else xs.getD i 0 := by
  unfold splice
  simp only [List.getD_eq_getElem?_getD]
  by_cases h1 : i < k
  · rw [if_neg (by omega), List.getElem?_append_left (by simp; omega), List.getElem?_take, if_pos h1]
  by_cases h2 : i < k + ys.length
  · rw [if_pos (by omega), List.getElem?_append_right (by simp; omega), List.getElem?_append_left (by simp; omega)]
    congr 3; simp; omega
  · rw [if_neg (by omega), List.getElem?_append_right (by simp; omega), List.getElem?_append_right (by simp; omega), List.getElem?_drop]
    congr 3; simp; omega
theorem lay_math (zs : List Int) (s k : Nat) (v : Int) (hs : s = 1 ∨ s = 2 ∨ s = 4) (hok : storeOk s k zs.length = true) :
    splice (zs.map (Value.int .u8)) k (((storeZ ((zs.drop k).take s) s 0 v).map (Value.int .u8)).take s) = (storeZ zs s k v).map (Value.int .u8) := by
  obtain ⟨_, _, hk4, hck⟩ := storeOk_yes hok
  obtain ⟨_, hr⟩ := checkZ_zero hck
  have hl : ((zs.drop k).take s).length = s := by simp; omega
  have hok2 : storeOk (s : Int) 0 (((zs.drop k).take s).length : Int) = true := by
    rw [hl]
    refine decide_eq_true ⟨by omega, by omega, by omega, checkZ_ok (.inr (Int.zero_emod _)) (by omega)⟩
  have hsl : (storeZ ((zs.drop k).take s) s 0 v).length = s := by rw [storeZ_len, hl]
  rw [List.take_of_length_le (by rw [List.length_map, hsl]; exact Nat.le_refl _)]
  have e : splice (zs.map (Value.int .u8)) k ((storeZ ((zs.drop k).take s) s 0 v).map (Value.int .u8)) = (splice zs k (storeZ ((zs.drop k).take s) s 0 v)).map (Value.int .u8) := by
    unfold splice; simp
  rw [e]
  congr 1
  refine ext_getD (by rw [length_splice _ _ _ (by rw [hsl]; omega), storeZ_len]) fun i => ?_
  rw [splice_getD _ _ _ _ (by rw [hsl]; omega), storeZ_at zs _ _ _ _ hok, hsl]
  by_cases hi : k ≤ i ∧ i < k + s
  · rw [if_pos hi, if_pos (by omega), storeZ_at _ _ _ _ _ hok2, if_pos (by omega)]
    congr 1
  · rw [if_neg hi, if_neg (by omega)]

set_option maxHeartbeats 1000000 in
theorem mLay_1 (vc : Value) (L : List Value) (pc v : Int) (g n cap b k : Nat) (zs : List Int) (w : World) (hb : MBox w b (machL vc L pc)) (hL : L.length = 23) (hvm : L[21]? = some (.slice (some ⟨g, 0, none⟩) n cap)) (hzl : zs.length = n)
    (B : Nat) (ho : w.ownsRow B 5 1 (.slice (some ⟨g, 0, none⟩) n cap) n (zs.map (Value.int .u8))) (hok : storeOk 1 k n = true) (hn : n ≤ 140737488355328) (hv : 0 ≤ v ∧ v ≤ 4294967295) :
    Calls Try.prog 51 #[.pointer (some ⟨b, 0, none⟩), .agg #[.int .i64 (k : Int), .int .i64 1, .int .u32 v]] w fun e w' => e = .returned (.tuple #[]) ∧ w'.ownsRow B 5 1 (.slice (some ⟨g, 0, none⟩) n cap) n ((storeZ zs 1 k v).map (Value.int .u8)) ∧ w.grownBy w' (some g) := by
  obtain ⟨_, _, _, hck⟩ := storeOk_yes hok
  obtain ⟨_, hr⟩ := checkZ_zero hck
  have hks : k + 1 ≤ n := by omega
  obtain ⟨g', cap', hsl, hgb, hgl⟩ := own_form ho (by omega)
  simp only [Value.slice.injEq, Option.some.injEq, Addr.mk.injEq, and_true, true_and] at hsl
  obtain ⟨rfl, rfl⟩ := hsl
  obtain ⟨hc1, hc2⟩ := (Row.of_own ho).cap
  have hst : Hid (splice (zs.map (Value.int .u8)) k (((storeZ ((zs.drop k).take 1) 1 0 v).map (Value.int .u8)).take 1) = (storeZ zs 1 k v).map (Value.int .u8)) := lay_math zs 1 k v (by omega) (by rw [hzl]; exact hok)
  have hz0 : w.heap.size < (w.alloc (.cells #[.int .i64 (k : Int), .int .i64 1, .int .u32 v] 38)).heap.size := by simp
  have i0 : (w.alloc (.cells #[.int .i64 (k : Int), .int .i64 1, .int .u32 v] 38)).cell? ⟨w.heap.size, 0, none⟩ = some (.int .i64 (k : Int)) := by go_simp
  have i1 : (w.alloc (.cells #[.int .i64 (k : Int), .int .i64 1, .int .u32 v] 38)).cell? ⟨w.heap.size, 1, none⟩ = some (.int .i64 1) := by go_simp
  have i2 : (w.alloc (.cells #[.int .i64 (k : Int), .int .i64 1, .int .u32 v] 38)).cell? ⟨w.heap.size, 2, none⟩ = some (.int .u32 v) := by go_simp
  have i6 := (hb.alloc (.cells #[.int .i64 (k : Int), .int .i64 1, .int .u32 v] 38)).cell (machL_res hL hvm)
  have HO0 := Lib.hid (ho.alloc (.cells #[.int .i64 (k : Int), .int .i64 1, .int .u32 v] 38))
  have HG0 := Lib.hid (w.grownBy_alloc (.cells #[.int .i64 (k : Int), .int .i64 1, .int .u32 v] 38) (some g))
  have HV := Lib.hid hv
  have HN := Lib.hid hn
  have HZL := Lib.hid hzl
  have hwr : IntKind.i64.wrap ((k : Int) + 1) = (k : Int) + 1 := IntWalk.i64_in _ (by omega)
  have hk0 : (0 : Int) ≤ k := by omega
  have hkc : (k : Int) + 1 ≤ cap := by omega
  have HKS := Lib.hid hks
  have HC1 := Lib.hid hc1
  clear hb ho hok hck hr hvm hv hn hzl
  go_enter Try.func51, Try.ntmps51
  go_wp2_with fail
  generalize w.alloc (.cells #[.int .i64 (k : Int), .int .i64 1, .int .u32 v] 38) = w0 at *
  refine wp_region_lin [(0, true), (1, true), (2, true), (3, true), (4, true), (5, true), (6, true), (7, true), (8, true), (9, true), (10, true), (11, true), (12, true), (13, true)]
    (by kernel_rfl) (by kernel_rfl) rfl (by kernel_rfl) (fun x => x.cell? ⟨w.heap.size, 0, none⟩ = some (.int .i64 (k : Int)) ∧ x.cell? ⟨w.heap.size, 1, none⟩ = some (.int .i64 1) ∧ x.cell? ⟨w.heap.size, 2, none⟩ = some (.int .u32 v) ∧ x.cell? ⟨b, 21 + 1, none⟩ = some (.slice (some ⟨g, 0, none⟩) n cap)) ?_
  simp only [List.map_cons, List.map_nil, List.getElem?_toArray, List.getElem?_cons_succ, List.getElem?_cons_zero]
  have hS : w0.drew.cell? ⟨w.heap.size, 0, none⟩ = some (.int .i64 (k : Int)) ∧ w0.drew.cell? ⟨w.heap.size, 1, none⟩ = some (.int .i64 1) ∧ w0.drew.cell? ⟨w.heap.size, 2, none⟩ = some (.int .u32 v) ∧ w0.drew.cell? ⟨b, 21 + 1, none⟩ = some (.slice (some ⟨g, 0, none⟩) n cap) := ⟨i0, i1, i2, i6⟩
  iterate 12 (refine lin_take (v := ?_) hS (by rfl) ?_ ?_; rotate_left; (intro x hx; obtain ⟨x0, x1, x2, x6⟩ := hx; go_simp; try (with_reducible rfl)); (simp only [Act.put, List.setIfInBounds_toArray, List.set_cons_zero, List.set_cons_succ]))
  refine lin_take (v := .slice (some ⟨g, k, none⟩) 1 (cap - k)) hS (by rfl) (fun x hx => ?_) ?_
  · have h1 : k + 1 ≤ cap := by have := HKS.out; have := HC1.out; omega
    have h2 : ¬ cap = k := by omega
    have h3 : k ≤ k + 1 := by omega
    have h4 : k + 1 - k = 1 := by omega
    obtain ⟨x0, x1, x2, x6⟩ := hx
    go_simp
    first
      | (intro hh; omega)
      | rw [if_pos (by omega), if_pos (by omega), show ((k : Int) + 1).toNat - k = 1 by omega]
  simp only [Act.put, List.setIfInBounds_toArray, List.set_cons_zero, List.set_cons_succ]
  (refine lin_take (v := ?_) hS (by rfl) ?_ ?_; rotate_left; (intro x hx; obtain ⟨x0, x1, x2, x6⟩ := hx; go_simp; try (with_reducible rfl)); (simp only [Act.put, List.setIfInBounds_toArray, List.set_cons_zero, List.set_cons_succ]))
  refine lin_done ?_
  obtain ⟨j0, j1, j2, j6⟩ := hS
  have HO1 : Hid (w0.drew.ownsRow B 5 1 (.slice (some ⟨g, 0, none⟩) n cap) n (zs.map (Value.int .u8))) := HO0.out
  have HG1 := Lib.hid (grown_drew HG0.out)
  clear i0 i1 i2 i6 HO0 HG0 hwr hk0 hkc
  generalize w0.drew = w1 at *
  have HR1 := Lib.hid ((Row.of_own HO1.out).cut (k := k) (m := 1) HKS.out (by have := HKS.out; omega))
  rw [← List.map_drop, ← List.map_take, Nat.zero_add] at HR1
  have HR2 : Hid (Row w1 w1.heap.size 1 (.slice (some ⟨g, k, none⟩) 1 (cap - k)) 1 (((zs.drop k).take 1).map (Value.int .u8))) := HR1
  clear HR1
  go_wp2_with fail
  refine (store_any (some ⟨g, k, none⟩) (cap - k) 1 ((zs.drop k).take 1) v w1 1 0 HR2.out (by omega) (by omega) HV.out).mono ?_; rintro e w2 ⟨v2, rfl, hown2, hb2⟩
  obtain ⟨A2, c2, rfl⟩ := (Row.of_own hown2).form
  have HO2 := Lib.hid (own_below HO1.out hb2)
  have HR3 := Lib.hid (Row.of_own hown2)
  have HG2 := Lib.hid (grown_trans HG1.out (grown_of_below hb2))
  clear hown2 hb2 j0 j1 j2 j6
  go_wp2_with (with_reducible show wpList _ _ _ _ _ _; refine wpList_copy_rowsG rfl (.tmp 18) (.tmp 25) 23 23 rfl 5 Try.underlying23 (by kernel_rfl) B g n cap k 1 (cap - k) _ HO2.out rfl A2 1 c2 w2.heap.size _ rfl HR3.out (u8_one _) (by have := HKS.out; omega) ?_; intro w3 hown3 hg3; have HO3 := Lib.hid hown3; have HG3 := Lib.hid (grown_trans HG2.out hg3); clear hown3 hg3)
  have hown4 := HO3.out
  rw [hst.out] at hown4
  exact bodyPost_end (v := .tuple #[]) (by simp [results, Try.results51]) rfl ⟨rfl, hown4, HG3.out⟩

set_option maxHeartbeats 1000000 in
theorem mLay_2 (vc : Value) (L : List Value) (pc v : Int) (g n cap b k : Nat) (zs : List Int) (w : World) (hb : MBox w b (machL vc L pc)) (hL : L.length = 23) (hvm : L[21]? = some (.slice (some ⟨g, 0, none⟩) n cap)) (hzl : zs.length = n)
    (B : Nat) (ho : w.ownsRow B 5 1 (.slice (some ⟨g, 0, none⟩) n cap) n (zs.map (Value.int .u8))) (hok : storeOk 2 k n = true) (hn : n ≤ 140737488355328) (hv : 0 ≤ v ∧ v ≤ 4294967295) :
    Calls Try.prog 51 #[.pointer (some ⟨b, 0, none⟩), .agg #[.int .i64 (k : Int), .int .i64 2, .int .u32 v]] w fun e w' => e = .returned (.tuple #[]) ∧ w'.ownsRow B 5 1 (.slice (some ⟨g, 0, none⟩) n cap) n ((storeZ zs 2 k v).map (Value.int .u8)) ∧ w.grownBy w' (some g) := by
  obtain ⟨_, _, _, hck⟩ := storeOk_yes hok
  obtain ⟨_, hr⟩ := checkZ_zero hck
  have hks : k + 2 ≤ n := by omega
  obtain ⟨g', cap', hsl, hgb, hgl⟩ := own_form ho (by omega)
  simp only [Value.slice.injEq, Option.some.injEq, Addr.mk.injEq, and_true, true_and] at hsl
  obtain ⟨rfl, rfl⟩ := hsl
  obtain ⟨hc1, hc2⟩ := (Row.of_own ho).cap
  have hst : Hid (splice (zs.map (Value.int .u8)) k (((storeZ ((zs.drop k).take 2) 2 0 v).map (Value.int .u8)).take 2) = (storeZ zs 2 k v).map (Value.int .u8)) := lay_math zs 2 k v (by omega) (by rw [hzl]; exact hok)
  have hz0 : w.heap.size < (w.alloc (.cells #[.int .i64 (k : Int), .int .i64 2, .int .u32 v] 38)).heap.size := by simp
  have i0 : (w.alloc (.cells #[.int .i64 (k : Int), .int .i64 2, .int .u32 v] 38)).cell? ⟨w.heap.size, 0, none⟩ = some (.int .i64 (k : Int)) := by go_simp
  have i1 : (w.alloc (.cells #[.int .i64 (k : Int), .int .i64 2, .int .u32 v] 38)).cell? ⟨w.heap.size, 1, none⟩ = some (.int .i64 2) := by go_simp
  have i2 : (w.alloc (.cells #[.int .i64 (k : Int), .int .i64 2, .int .u32 v] 38)).cell? ⟨w.heap.size, 2, none⟩ = some (.int .u32 v) := by go_simp
  have i6 := (hb.alloc (.cells #[.int .i64 (k : Int), .int .i64 2, .int .u32 v] 38)).cell (machL_res hL hvm)
  have HO0 := Lib.hid (ho.alloc (.cells #[.int .i64 (k : Int), .int .i64 2, .int .u32 v] 38))
  have HG0 := Lib.hid (w.grownBy_alloc (.cells #[.int .i64 (k : Int), .int .i64 2, .int .u32 v] 38) (some g))
  have HV := Lib.hid hv
  have HN := Lib.hid hn
  have HZL := Lib.hid hzl
  have hwr : IntKind.i64.wrap ((k : Int) + 2) = (k : Int) + 2 := IntWalk.i64_in _ (by omega)
  have hk0 : (0 : Int) ≤ k := by omega
  have hkc : (k : Int) + 2 ≤ cap := by omega
  have HKS := Lib.hid hks
  have HC1 := Lib.hid hc1
  clear hb ho hok hck hr hvm hv hn hzl
  go_enter Try.func51, Try.ntmps51
  go_wp2_with fail
  generalize w.alloc (.cells #[.int .i64 (k : Int), .int .i64 2, .int .u32 v] 38) = w0 at *
  refine wp_region_lin [(0, true), (1, true), (2, true), (3, true), (4, true), (5, true), (6, true), (7, true), (8, true), (9, true), (10, true), (11, true), (12, true), (13, true)]
    (by kernel_rfl) (by kernel_rfl) rfl (by kernel_rfl) (fun x => x.cell? ⟨w.heap.size, 0, none⟩ = some (.int .i64 (k : Int)) ∧ x.cell? ⟨w.heap.size, 1, none⟩ = some (.int .i64 2) ∧ x.cell? ⟨w.heap.size, 2, none⟩ = some (.int .u32 v) ∧ x.cell? ⟨b, 21 + 1, none⟩ = some (.slice (some ⟨g, 0, none⟩) n cap)) ?_
  simp only [List.map_cons, List.map_nil, List.getElem?_toArray, List.getElem?_cons_succ, List.getElem?_cons_zero]
  have hS : w0.drew.cell? ⟨w.heap.size, 0, none⟩ = some (.int .i64 (k : Int)) ∧ w0.drew.cell? ⟨w.heap.size, 1, none⟩ = some (.int .i64 2) ∧ w0.drew.cell? ⟨w.heap.size, 2, none⟩ = some (.int .u32 v) ∧ w0.drew.cell? ⟨b, 21 + 1, none⟩ = some (.slice (some ⟨g, 0, none⟩) n cap) := ⟨i0, i1, i2, i6⟩
  iterate 12 (refine lin_take (v := ?_) hS (by rfl) ?_ ?_; rotate_left; (intro x hx; obtain ⟨x0, x1, x2, x6⟩ := hx; go_simp; try (with_reducible rfl)); (simp only [Act.put, List.setIfInBounds_toArray, List.set_cons_zero, List.set_cons_succ]))
  refine lin_take (v := .slice (some ⟨g, k, none⟩) 2 (cap - k)) hS (by rfl) (fun x hx => ?_) ?_
  · have h1 : k + 2 ≤ cap := by have := HKS.out; have := HC1.out; omega
    have h2 : ¬ cap = k := by omega
    have h3 : k ≤ k + 2 := by omega
    have h4 : k + 2 - k = 2 := by omega
    obtain ⟨x0, x1, x2, x6⟩ := hx
    go_simp
    first
      | (intro hh; omega)
      | rw [if_pos (by omega), if_pos (by omega), show ((k : Int) + 2).toNat - k = 2 by omega]
  simp only [Act.put, List.setIfInBounds_toArray, List.set_cons_zero, List.set_cons_succ]
  (refine lin_take (v := ?_) hS (by rfl) ?_ ?_; rotate_left; (intro x hx; obtain ⟨x0, x1, x2, x6⟩ := hx; go_simp; try (with_reducible rfl)); (simp only [Act.put, List.setIfInBounds_toArray, List.set_cons_zero, List.set_cons_succ]))
  refine lin_done ?_
  obtain ⟨j0, j1, j2, j6⟩ := hS
  have HO1 : Hid (w0.drew.ownsRow B 5 1 (.slice (some ⟨g, 0, none⟩) n cap) n (zs.map (Value.int .u8))) := HO0.out
  have HG1 := Lib.hid (grown_drew HG0.out)
  clear i0 i1 i2 i6 HO0 HG0 hwr hk0 hkc
  generalize w0.drew = w1 at *
  have HR1 := Lib.hid ((Row.of_own HO1.out).cut (k := k) (m := 2) HKS.out (by have := HKS.out; omega))
  rw [← List.map_drop, ← List.map_take, Nat.zero_add] at HR1
  have HR2 : Hid (Row w1 w1.heap.size 1 (.slice (some ⟨g, k, none⟩) 2 (cap - k)) 2 (((zs.drop k).take 2).map (Value.int .u8))) := HR1
  clear HR1
  go_wp2_with fail
  refine (store_any (some ⟨g, k, none⟩) (cap - k) 2 ((zs.drop k).take 2) v w1 2 0 HR2.out (by omega) (by omega) HV.out).mono ?_; rintro e w2 ⟨v2, rfl, hown2, hb2⟩
  obtain ⟨A2, c2, rfl⟩ := (Row.of_own hown2).form
  have HO2 := Lib.hid (own_below HO1.out hb2)
  have HR3 := Lib.hid (Row.of_own hown2)
  have HG2 := Lib.hid (grown_trans HG1.out (grown_of_below hb2))
  clear hown2 hb2 j0 j1 j2 j6
  go_wp2_with (with_reducible show wpList _ _ _ _ _ _; refine wpList_copy_rowsG rfl (.tmp 18) (.tmp 25) 23 23 rfl 5 Try.underlying23 (by kernel_rfl) B g n cap k 2 (cap - k) _ HO2.out rfl A2 2 c2 w2.heap.size _ rfl HR3.out (u8_one _) (by have := HKS.out; omega) ?_; intro w3 hown3 hg3; have HO3 := Lib.hid hown3; have HG3 := Lib.hid (grown_trans HG2.out hg3); clear hown3 hg3)
  have hown4 := HO3.out
  rw [hst.out] at hown4
  exact bodyPost_end (v := .tuple #[]) (by simp [results, Try.results51]) rfl ⟨rfl, hown4, HG3.out⟩

set_option maxHeartbeats 1000000 in
theorem mLay_4 (vc : Value) (L : List Value) (pc v : Int) (g n cap b k : Nat) (zs : List Int) (w : World) (hb : MBox w b (machL vc L pc)) (hL : L.length = 23) (hvm : L[21]? = some (.slice (some ⟨g, 0, none⟩) n cap)) (hzl : zs.length = n)
    (B : Nat) (ho : w.ownsRow B 5 1 (.slice (some ⟨g, 0, none⟩) n cap) n (zs.map (Value.int .u8))) (hok : storeOk 4 k n = true) (hn : n ≤ 140737488355328) (hv : 0 ≤ v ∧ v ≤ 4294967295) :
    Calls Try.prog 51 #[.pointer (some ⟨b, 0, none⟩), .agg #[.int .i64 (k : Int), .int .i64 4, .int .u32 v]] w fun e w' => e = .returned (.tuple #[]) ∧ w'.ownsRow B 5 1 (.slice (some ⟨g, 0, none⟩) n cap) n ((storeZ zs 4 k v).map (Value.int .u8)) ∧ w.grownBy w' (some g) := by
  obtain ⟨_, _, _, hck⟩ := storeOk_yes hok
  obtain ⟨_, hr⟩ := checkZ_zero hck
  have hks : k + 4 ≤ n := by omega
  obtain ⟨g', cap', hsl, hgb, hgl⟩ := own_form ho (by omega)
  simp only [Value.slice.injEq, Option.some.injEq, Addr.mk.injEq, and_true, true_and] at hsl
  obtain ⟨rfl, rfl⟩ := hsl
  obtain ⟨hc1, hc2⟩ := (Row.of_own ho).cap
  have hst : Hid (splice (zs.map (Value.int .u8)) k (((storeZ ((zs.drop k).take 4) 4 0 v).map (Value.int .u8)).take 4) = (storeZ zs 4 k v).map (Value.int .u8)) := lay_math zs 4 k v (by omega) (by rw [hzl]; exact hok)
  have hz0 : w.heap.size < (w.alloc (.cells #[.int .i64 (k : Int), .int .i64 4, .int .u32 v] 38)).heap.size := by simp
  have i0 : (w.alloc (.cells #[.int .i64 (k : Int), .int .i64 4, .int .u32 v] 38)).cell? ⟨w.heap.size, 0, none⟩ = some (.int .i64 (k : Int)) := by go_simp
  have i1 : (w.alloc (.cells #[.int .i64 (k : Int), .int .i64 4, .int .u32 v] 38)).cell? ⟨w.heap.size, 1, none⟩ = some (.int .i64 4) := by go_simp
  have i2 : (w.alloc (.cells #[.int .i64 (k : Int), .int .i64 4, .int .u32 v] 38)).cell? ⟨w.heap.size, 2, none⟩ = some (.int .u32 v) := by go_simp
  have i6 := (hb.alloc (.cells #[.int .i64 (k : Int), .int .i64 4, .int .u32 v] 38)).cell (machL_res hL hvm)
  have HO0 := Lib.hid (ho.alloc (.cells #[.int .i64 (k : Int), .int .i64 4, .int .u32 v] 38))
  have HG0 := Lib.hid (w.grownBy_alloc (.cells #[.int .i64 (k : Int), .int .i64 4, .int .u32 v] 38) (some g))
  have HV := Lib.hid hv
  have HN := Lib.hid hn
  have HZL := Lib.hid hzl
  have hwr : IntKind.i64.wrap ((k : Int) + 4) = (k : Int) + 4 := IntWalk.i64_in _ (by omega)
  have hk0 : (0 : Int) ≤ k := by omega
  have hkc : (k : Int) + 4 ≤ cap := by omega
  have HKS := Lib.hid hks
  have HC1 := Lib.hid hc1
  clear hb ho hok hck hr hvm hv hn hzl
  go_enter Try.func51, Try.ntmps51
  go_wp2_with fail
  generalize w.alloc (.cells #[.int .i64 (k : Int), .int .i64 4, .int .u32 v] 38) = w0 at *
  refine wp_region_lin [(0, true), (1, true), (2, true), (3, true), (4, true), (5, true), (6, true), (7, true), (8, true), (9, true), (10, true), (11, true), (12, true), (13, true)]
    (by kernel_rfl) (by kernel_rfl) rfl (by kernel_rfl) (fun x => x.cell? ⟨w.heap.size, 0, none⟩ = some (.int .i64 (k : Int)) ∧ x.cell? ⟨w.heap.size, 1, none⟩ = some (.int .i64 4) ∧ x.cell? ⟨w.heap.size, 2, none⟩ = some (.int .u32 v) ∧ x.cell? ⟨b, 21 + 1, none⟩ = some (.slice (some ⟨g, 0, none⟩) n cap)) ?_
  simp only [List.map_cons, List.map_nil, List.getElem?_toArray, List.getElem?_cons_succ, List.getElem?_cons_zero]
  have hS : w0.drew.cell? ⟨w.heap.size, 0, none⟩ = some (.int .i64 (k : Int)) ∧ w0.drew.cell? ⟨w.heap.size, 1, none⟩ = some (.int .i64 4) ∧ w0.drew.cell? ⟨w.heap.size, 2, none⟩ = some (.int .u32 v) ∧ w0.drew.cell? ⟨b, 21 + 1, none⟩ = some (.slice (some ⟨g, 0, none⟩) n cap) := ⟨i0, i1, i2, i6⟩
  iterate 12 (refine lin_take (v := ?_) hS (by rfl) ?_ ?_; rotate_left; (intro x hx; obtain ⟨x0, x1, x2, x6⟩ := hx; go_simp; try (with_reducible rfl)); (simp only [Act.put, List.setIfInBounds_toArray, List.set_cons_zero, List.set_cons_succ]))
  refine lin_take (v := .slice (some ⟨g, k, none⟩) 4 (cap - k)) hS (by rfl) (fun x hx => ?_) ?_
  · have h1 : k + 4 ≤ cap := by have := HKS.out; have := HC1.out; omega
    have h2 : ¬ cap = k := by omega
    have h3 : k ≤ k + 4 := by omega
    have h4 : k + 4 - k = 4 := by omega
    obtain ⟨x0, x1, x2, x6⟩ := hx
    go_simp
    first
      | (intro hh; omega)
      | rw [if_pos (by omega), if_pos (by omega), show ((k : Int) + 4).toNat - k = 4 by omega]
  simp only [Act.put, List.setIfInBounds_toArray, List.set_cons_zero, List.set_cons_succ]
  (refine lin_take (v := ?_) hS (by rfl) ?_ ?_; rotate_left; (intro x hx; obtain ⟨x0, x1, x2, x6⟩ := hx; go_simp; try (with_reducible rfl)); (simp only [Act.put, List.setIfInBounds_toArray, List.set_cons_zero, List.set_cons_succ]))
  refine lin_done ?_
  obtain ⟨j0, j1, j2, j6⟩ := hS
  have HO1 : Hid (w0.drew.ownsRow B 5 1 (.slice (some ⟨g, 0, none⟩) n cap) n (zs.map (Value.int .u8))) := HO0.out
  have HG1 := Lib.hid (grown_drew HG0.out)
  clear i0 i1 i2 i6 HO0 HG0 hwr hk0 hkc
  generalize w0.drew = w1 at *
  have HR1 := Lib.hid ((Row.of_own HO1.out).cut (k := k) (m := 4) HKS.out (by have := HKS.out; omega))
  rw [← List.map_drop, ← List.map_take, Nat.zero_add] at HR1
  have HR2 : Hid (Row w1 w1.heap.size 1 (.slice (some ⟨g, k, none⟩) 4 (cap - k)) 4 (((zs.drop k).take 4).map (Value.int .u8))) := HR1
  clear HR1
  go_wp2_with fail
  refine (store_any (some ⟨g, k, none⟩) (cap - k) 4 ((zs.drop k).take 4) v w1 4 0 HR2.out (by omega) (by omega) HV.out).mono ?_; rintro e w2 ⟨v2, rfl, hown2, hb2⟩
  obtain ⟨A2, c2, rfl⟩ := (Row.of_own hown2).form
  have HO2 := Lib.hid (own_below HO1.out hb2)
  have HR3 := Lib.hid (Row.of_own hown2)
  have HG2 := Lib.hid (grown_trans HG1.out (grown_of_below hb2))
  clear hown2 hb2 j0 j1 j2 j6
  go_wp2_with (with_reducible show wpList _ _ _ _ _ _; refine wpList_copy_rowsG rfl (.tmp 18) (.tmp 25) 23 23 rfl 5 Try.underlying23 (by kernel_rfl) B g n cap k 4 (cap - k) _ HO2.out rfl A2 4 c2 w2.heap.size _ rfl HR3.out (u8_one _) (by have := HKS.out; omega) ?_; intro w3 hown3 hg3; have HO3 := Lib.hid hown3; have HG3 := Lib.hid (grown_trans HG2.out hg3); clear hown3 hg3)
  have hown4 := HO3.out
  rw [hst.out] at hown4
  exact bodyPost_end (v := .tuple #[]) (by simp [results, Try.results51]) rfl ⟨rfl, hown4, HG3.out⟩
end Go.Proofs.Ytdjllgdeijdieaa.Words

/- A law of no one program: A REGION THAT DRAWS ITS ORDER, WALKED ALONG A TREE OF ORDERS ('Lin' with forks): where two operations that turn the world may come up in either order, the tree parts. What holds behind the region (R) is named ahead: the rest is walked once. -/
namespace Go.Proofs.Ytdjllgdeijdieaa.Words
set_option maxRecDepth 100000
open Go.RowKit

inductive LinT | nil | one (i : Nat) (b : Bool) (r : LinT) | two (i j : Nat) (r s : LinT)
inductive LinO | nil | one (o : Option Oper) (b : Bool) (r : LinO) | two (o o' : Option Oper) (r s : LinO)
def LinT.look (ops : Array Oper) : LinT → LinO
  | .nil => .nil
  | .one i b r => .one ops[i]? b (r.look ops)
  | .two i j r s => .two ops[i]? ops[j]? (r.look ops) (s.look ops)
def LinT.size : LinT → Nat
  | .nil => 0
  | .one _ _ r => r.size + 1
  | .two _ _ r _ => r.size + 1
def LinT.ok (md : Region.Mode) (ops : Array Oper) : LinT → Array Bool → Bool
  | .nil, listed => (Region.ready md ops listed).isEmpty
  | .one i true r, listed => (Region.ready md ops listed).contains i && Region.free md ops listed i && r.ok md ops (listed.setIfInBounds i true)
  | .one i false r, listed => (Region.ready md ops listed == [i]) && r.ok md ops (listed.setIfInBounds i true)
  | .two i j r s, listed => (Region.ready md ops listed == [i, j]) && r.size == s.size && r.ok md ops (listed.setIfInBounds i true) && s.ok md ops (listed.setIfInBounds j true)
/-- A list of orders as a tree. -/
def LinT.of : List (Nat × Bool) → LinT → LinT
  | [], t => t
  | (i, b) :: l, t => .one i b (LinT.of l t)

section
variable {P : Program} {ops : Array Oper} {Q : Exit → Act → World → Prop} {R : Act → World → Prop} {md : Region.Mode}

def wpT (P : Program) (ops : Array Oper) (Q : Exit → Act → World → Prop) (R : Act → World → Prop) : LinO → (World → Prop) → Act → World → Prop
  | .nil, _, a, w => R a w
  | .one (some o) true rest, S, a, w => ∃ S' : World → Prop, (∀ x, S' x → S x) ∧ S' w ∧ ∃ v, YieldsIf P ops S' o v a ∧ wpT P ops Q R rest S' (a.put o.dst v) w
  | .one (some o) false rest, S, a, w => ∃ S' : World → Prop, (∀ x, S' x → S x) ∧ S' w ∧ linStep P ops Q o (fun a' w' => S' w' ∧ wpT P ops Q R rest S' a' w') a w
  | .two (some o) (some o') r s, S, a, w => ∃ S' : World → Prop, (∀ x, S' x → S x) ∧ S' w ∧ linStep P ops Q o (fun a' w' => S' w' ∧ wpT P ops Q R r S' a' w') a w ∧ linStep P ops Q o' (fun a' w' => S' w' ∧ wpT P ops Q R s S' a' w') a w
  | .one none _ _, _, _, _ => False
  | .two none _ _ _, _, _, _ => False
  | .two (some _) none _ _, _, _, _ => False

theorem step_any {i : Nat} {o : Oper} {fuel : Nat} {listed : Array Bool} {S' : World → Prop} {K : Act → World → Prop} {a : Act} {w : World} (ho : ops[i]? = some o)
    (hK : ∀ a w, K a w → wpAnyH P md ops Q S' fuel (listed.setIfInBounds i true) a w)
    (h : linStep P ops Q o (fun a' w' => S' w' ∧ K a' w') a w) : wpOp P ops Q i (fun a' w' => S' w' ∧ wpAnyH P md ops Q S' fuel (listed.setIfInBounds i true) a' w') a w := by
  unfold wpOp
  simp only [ho]
  unfold linStep at h
  split at h
  · rename_i hw
    rw [if_pos hw]
    exact .inl (Oper.wp_mono (fun a' w' hk => ⟨hk.1, hK a' w' hk.2⟩) h)
  · rename_i hw
    rw [if_neg hw]
    exact ⟨h.1, hK _ _ h.2⟩

theorem held_tree (hs : Region.noSelect ops = true) (hQ : ∀ d v c a w, Q (.panic c) (a.put d v) w → Q (.panic c) a w) (hR : ∀ a w, R a w → Q .normal a w) :
    ∀ (t : LinT) (listed : Array Bool) (S : World → Prop) (a : Act) (w : World), t.ok md ops listed = true → wpT P ops Q R (t.look ops) S a w → wpAnyH P md ops Q S t.size listed a w
  | .nil, listed, S, a, w, hok, h => ⟨by simpa [LinT.ok] using hok, hR _ _ h⟩
  | .one i true rest, listed, S, a, w, hok, h => by
    simp only [LinT.ok, Bool.and_eq_true] at hok
    obtain ⟨⟨h1, h2⟩, h3⟩ := hok
    rcases ho : ops[i]? with _ | o
    · simp only [LinT.look, ho, wpT] at h
    · simp only [LinT.look, ho, wpT] at h
      obtain ⟨S', k1, k2, v, k3, k4⟩ := h
      exact held_weaken k1 _ _ _ _ (wpAnyH_take ho hs h2 h1 (hQ _ _) k3 k2 (held_tree hs hQ hR rest _ S' _ w h3 k4))
  | .one i false rest, listed, S, a, w, hok, h => by
    simp only [LinT.ok, Bool.and_eq_true, beq_iff_eq] at hok
    obtain ⟨h1, h3⟩ := hok
    rcases ho : ops[i]? with _ | o
    · simp only [LinT.look, ho, wpT] at h
    · simp only [LinT.look, ho, wpT] at h
      obtain ⟨S', k1, k2, k3⟩ := h
      refine held_weaken k1 _ _ _ _ (wpAnyH_all h1 (by simp) fun j hj => ?_)
      have hji : j = i := by simpa using hj
      subst hji
      exact step_any ho (fun a w hk => held_tree hs hQ hR rest _ S' a w h3 hk) k3
  | .two i j r s, listed, S, a, w, hok, h => by
    simp only [LinT.ok, Bool.and_eq_true, beq_iff_eq] at hok
    obtain ⟨⟨⟨h1, h2⟩, h3⟩, h4⟩ := hok
    rcases ho : ops[i]? with _ | o
    · simp only [LinT.look, ho, wpT] at h
    · rcases ho' : ops[j]? with _ | o'
      · simp only [LinT.look, ho, ho', wpT] at h
      · simp only [LinT.look, ho, ho', wpT] at h
        obtain ⟨S', k1, k2, k3, k4⟩ := h
        refine held_weaken k1 _ _ _ _ (wpAnyH_all h1 (by simp) fun k hk => ?_)
        have hki : k = i ∨ k = j := by simpa using hk
        rcases hki with rfl | rfl
        · exact step_any ho (fun a w hk => held_tree hs hQ hR r _ S' a w h3 hk) k3
        · exact step_any ho' (fun a w hk => (show wpAnyH P md ops Q S' r.size _ a w by rw [h2]; exact held_tree hs hQ hR s _ S' a w h4 hk)) k4

/-- THE REGION. -/
theorem wp_region_tree {id : Nat} {a : Act} {w : World} (R : Act → World → Prop) (t : LinT) (hm : P.follows .mixedOrders = true) (hs : Region.noSelect ops = true) (hl : t.size = ops.size)
    (hok : t.ok .any ops (Array.replicate ops.size false) = true) (S : World → Prop) (hR : ∀ a w, R a w → Q .normal a w)
    (h : wpT P ops (NoPanic Q) R (t.look ops) S a w.drew) : (Code.region id ops true).wp P Q a w := by
  refine wp_region_noPanic (wp_region_held hm (S := S) ?_)
  have hh := held_tree (Q := NoPanic Q) hs (fun _ _ _ _ _ h => h) hR t _ S a w.drew hok h
  rw [hl] at hh
  exact hh

theorem tree_take {o : Oper} {rest : LinO} {S : World → Prop} {a : Act} {w : World} {v : Value} (hS : S w)
    (hw : Region.wanted o (yielded ops a.tmps) = true) (hy : ∀ x, S x → (execOp a.eval o).run P x = .ok (.value v) x)
    (h : wpT P ops Q R rest S (a.put o.dst v) w) : wpT P ops Q R (.one (some o) true rest) S a w := ⟨S, fun _ h => h, hS, v, .inl ⟨hw, hy⟩, h⟩
theorem tree_skip {o : Oper} {rest : LinO} {S : World → Prop} {a : Act} {w : World} (hS : S w)
    (hw : Region.wanted o (yielded ops a.tmps) = false) (h : wpT P ops Q R rest S (a.put o.dst undef) w) : wpT P ops Q R (.one (some o) true rest) S a w := ⟨S, fun _ h => h, hS, undef, .inr ⟨hw, rfl⟩, h⟩
theorem tree_call {o : Oper} {rest : LinO} {S : World → Prop} {a : Act} {w : World} (hS : S w) (hw : Region.wanted o (yielded ops a.tmps) = true)
    (h : ∀ K : Act → World → Prop, Shut (∀ a w, S w → (S w → wpT P ops Q R rest S a w) → K a w) → Oper.wp P o a w K Q) : wpT P ops Q R (.one (some o) false rest) S a w :=
  ⟨S, fun _ h => h, hS, by unfold linStep; rw [if_pos hw]; exact h _ (fun _ _ h1 h2 => ⟨h1, h2 h1⟩)⟩
theorem tree_two {o o' : Oper} {r s : LinO} {S : World → Prop} {a : Act} {w : World} (hS : S w) (hw : Region.wanted o (yielded ops a.tmps) = true) (hw' : Region.wanted o' (yielded ops a.tmps) = true)
    (h : ∀ K : Act → World → Prop, Shut (∀ a w, S w → (S w → wpT P ops Q R r S a w) → K a w) → Oper.wp P o a w K Q)
    (h' : ∀ K : Act → World → Prop, Shut (∀ a w, S w → (S w → wpT P ops Q R s S a w) → K a w) → Oper.wp P o' a w K Q) : wpT P ops Q R (.two (some o) (some o') r s) S a w :=
  ⟨S, fun _ h => h, hS, by unfold linStep; rw [if_pos hw]; exact h _ (fun _ _ h1 h2 => ⟨h1, h2 h1⟩), by unfold linStep; rw [if_pos hw']; exact h' _ (fun _ _ h1 h2 => ⟨h1, h2 h1⟩)⟩
theorem tree_more {l : LinO} {S S' : World → Prop} {a : Act} {w : World} (h1 : ∀ x, S' x → S x) (h : wpT P ops Q R l S' a w) : wpT P ops Q R l S a w := by
  rcases l with _ | ⟨o, b, r⟩ | ⟨o, o', r, s⟩
  · exact h
  · rcases o with _ | o
    · cases b <;> exact h
    · cases b
      · obtain ⟨S2, k1, k2⟩ := h
        exact ⟨S2, fun x hx => h1 x (k1 x hx), k2⟩
      · obtain ⟨S2, k1, k2⟩ := h
        exact ⟨S2, fun x hx => h1 x (k1 x hx), k2⟩
  · rcases o with _ | o
    · exact h
    · rcases o' with _ | o'
      · exact h
      · obtain ⟨S2, k1, k2⟩ := h
        exact ⟨S2, fun x hx => h1 x (k1 x hx), k2⟩
theorem tree_done {S : World → Prop} {a : Act} {w : World} (h : R a w) : wpT P ops Q R .nil S a w := h
end
end Go.Proofs.Ytdjllgdeijdieaa.Words

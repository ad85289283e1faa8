/- Several texts in one: AsmNames, ShowData, AsmCheck, AsmRead, InsEq, AsmAlive, AsmNamesLaw. -/
import Derived.Test.YtfdegdbknponkaaDoorG06
import Derived.LoopTactic
import Derived.Test.YtfdegdbknponkaaDoorG08
import Derived.Test.YtfdegdbknponkaaDoorG03
import Derived.Test.YtfdegdbknponkaaDoorG01
import Derived.Lib.AppendStr
import Derived.Test.YtfdegdbknponkaaDoorRows
import Derived.Deep.QuietTactic
import Derived.BigQuiet

/- Contracts of package asm's Names, and of the document's own. -/
namespace Go.Proofs.YtfdegdbknponkaaDoor.Words
set_option maxRecDepth 100000
open Go.RowKit Go.Shelf Go.Lib
set_option linter.unusedVariables false
set_option linter.unusedSimpArgs false

/-- All names, a blank behind each. -/
def allN : List UInt8 := namesZ.flatMap (fun t => t ++ [32])
theorem allN_len : allN.length = 169 := by decide +kernel
theorem allN_low : ∀ c ∈ allN, c.toNat < 128 := by decide +kernel
/-- The names that end ahead of a place, and where the next one begins. -/
def atN : Nat → List (List UInt8) × Nat
  | 0 => ([], 0)
  | k + 1 => if allN[k]? = some 32 then ((atN k).1 ++ [(allN.drop (atN k).2).take (k - (atN k).2)], k + 1) else atN k
theorem atN_le : ∀ k, (atN k).2 ≤ k ∧ (atN k).1.length ≤ k
  | 0 => ⟨Nat.le_refl _, Nat.le_refl _⟩
  | k + 1 => by
    have := atN_le k
    unfold atN
    split
    · simp; omega
    · omega
theorem atN_end : (atN 169).1 = namesZ := by decide +kernel
theorem info_str : (Tryd.prog.info? 9).map (fun i => (i.zero, i.size, i.bytes)) = some (some (.string ⟨#[]⟩), 1, 16) := by kernel_rfl

theorem lit_eq : (⟨#[97, 100, 100, 32, 115, 117, 98, 32, 97, 110, 100, 32, 111, 114, 32, 120, 111, 114, 32, 115, 108, 108, 32, 115, 114, 108, 32, 115, 114, 97, 32, 115, 108, 116, 32, 115, 108, 116, 117, 32, 109, 117, 108, 32, 109, 117, 108, 104, 32, 100, 105, 118, 32, 100, 105, 118, 117, 32, 114, 101, 109, 32, 114, 101, 109, 117, 32, 97, 100, 100, 105, 32, 97, 110, 100, 105, 32, 111, 114, 105, 32, 120, 111, 114, 105, 32, 115, 108, 116, 105, 32, 115, 108, 108, 105, 32, 115, 114, 108, 105, 32, 115, 114, 97, 105, 32, 108, 117, 105, 32, 108, 119, 32, 108, 104, 32, 108, 104, 117, 32, 108, 98, 32, 108, 98, 117, 32, 115, 119, 32, 115, 104, 32, 115, 98, 32, 98, 101, 113, 32, 98, 110, 101, 32, 98, 108, 116, 32, 98, 103, 101, 32, 98, 108, 116, 117, 32, 98, 103, 101, 117, 32, 106, 32, 104, 97, 108, 116, 32]⟩ : ByteArray) = txt allN := by decide +kernel
set_option maxHeartbeats 4000000 in
theorem names_any (w : World) : Calls Tryd.prog 29 #[] w fun e w' => ∃ v, e = .returned v ∧ w'.ownsRow w.heap.size 9 1 v 41 namesL ∧ Below w.heap.size w w' := by
  obtain ⟨i0, hi, hz0, hz1, hz2⟩ := info_parts info_str
  have HI := Lib.hid hi
  have HZ0 := Lib.hid hz0
  have HZ1 := Lib.hid hz1
  have HZ2 := Lib.hid hz2
  clear hi hz0 hz1 hz2
  go_enter Tryd.func29, Tryd.ntmps29
  go_wp2_with fail
  go_loopw [1, 2] (fun v bg wr => ∃ k : Nat, k ≤ 169 ∧ bg = .int .i64 ((atN k).2 : Int) ∧ wr.heap[w.heap.size]? = some (.stringIter (txt allN) k) ∧ wr.ownsRow (w.heap.size + 1) 9 1 v (atN k).1.length ((atN k).1.map (fun t => Value.string (txt t))) ∧ Below w.heap.size w wr) (fun _ _ wr => 169 - wr.iterPos w.heap.size)
  case atStart =>
    refine ⟨0, Nat.zero_le _, rfl, ?_, World.ownsRow_nil _ _ _ _, (Below.refl _ w).alloc (Nat.le_refl _) _⟩
    rw [← lit_eq]
    exact World.iter_heap w _ 0
  case round =>
    obtain ⟨k, hk, rfl, hit, hown, hB⟩ := hrel
    have HIT := Lib.hid hit
    have HO := Lib.hid hown
    have HB := Lib.hid hB
    have HK := Lib.hid hk
    obtain ⟨A, cc, rfl⟩ := (Row.of_own hown).form
    have hsz : w.heap.size < wr.heap.size := (Array.getElem?_eq_some_iff.1 hit).1
    have hal := allN_len
    have hts : (txt allN).size = 169 := by rw [txt_sz, allN_len]
    obtain ⟨b0, b1⟩ := atN_le k
    by_cases hlt : k < 169
    · obtain ⟨c, hc⟩ : ∃ c, allN[k]? = some c := ⟨_, List.getElem?_eq_getElem (by omega)⟩
      have hc128 := allN_low c (List.mem_iff_getElem?.2 ⟨k, hc⟩)
      have hnx := fun ty => next_rune (P := Tryd.prog) hit (show k < (txt allN).size by omega) ty
      obtain ⟨q1, q2⟩ := ascii_at hc hc128
      rw [txt_data, q1, q2] at hnx
      have hit2 := Lib.hid (Lib.iterAt_heap wr w.heap.size (txt allN) k (k + 1) hit)
      have HB2 := Lib.hid (Lib.below_iterAt hB (k := w.heap.size) (Nat.le_refl _) (txt allN) (k + 1))
      have hsz2 : (wr.iterAt w.heap.size (txt allN) (k + 1)).heap.size = wr.heap.size := Lib.iterAt_size _ _ _ _
      have HSZ2 := Lib.hid hsz2
      have HO2 : Hid ((wr.iterAt w.heap.size (txt allN) (k + 1)).ownsRow (w.heap.size + 1) 9 1 (.slice A (atN k).1.length cc) (atN k).1.length ((atN k).1.map (fun t => Value.string (txt t)))) :=
        own_grown hown (iterAt_grown _ _ _ _) (fun g hg e => by have := (hown.lt g hg).1; injection e with e; omega)
      have HST : Hid (atN (k + 1) = if allN[k]? = some 32 then ((atN k).1 ++ [(allN.drop (atN k).2).take (k - (atN k).2)], k + 1) else atN k) := rfl
      rw [hc] at HST
      by_cases h32 : c = 32
      · subst h32
        have HS2 : Hid (atN (k + 1) = ((atN k).1 ++ [(allN.drop (atN k).2).take (k - (atN k).2)], k + 1)) := by show _ = _; rw [HST.out, if_pos rfl]
        have HCUT : Hid ((txt allN).extract (atN k).2 k = txt ((allN.drop (atN k).2).take (k - (atN k).2))) := by
          have := txt_cut (txt allN) (atN k).2 (k - (atN k).2)
          rw [txt_data, Nat.add_sub_cancel' b0] at this
          exact this
        clear HST hc hc128 q1 q2 hit hown hB hk hsz2
        generalize (atN k).2 = bg at *
        generalize (atN k).1 = ws at *
        have e32 : ((32 : UInt8).toNat : Int) = 32 := rfl
        rw [e32] at hnx
        have j0 : (0 : Int) ≤ bg := by omega
        have j1 : (bg : Int) ≤ k := by omega
        have j2 : (k : Int) ≤ 169 := by omega
        have HWS := Lib.hid b1
        clear b1
        have hwl : ws.length ≤ 1000 := by have := HWS.out; omega
        go_wp2_with (at_builtin; refine wpList_append_row _ rfl (.tmp 12) (.tmp 16) 35 rfl (w.heap.size + 1) 9 i0 _ 1 16 Tryd.underlying35 HI.out HZ0.out HZ1.out HZ2.out rfl (by omega) (.slice A ws.length cc) ws.length (ws.map (fun t => Value.string (txt t))) rfl (HO2.out.alloc _) ((wr.iterAt w.heap.size (txt allN) (k + 1)).heap.size + 1) (.slice (some ⟨(wr.iterAt w.heap.size (txt allN) (k + 1)).heap.size, 0, none⟩) 1 1) 1 [.string ((⟨#[97, 100, 100, 32, 115, 117, 98, 32, 97, 110, 100, 32, 111, 114, 32, 120, 111, 114, 32, 115, 108, 108, 32, 115, 114, 108, 32, 115, 114, 97, 32, 115, 108, 116, 32, 115, 108, 116, 117, 32, 109, 117, 108, 32, 109, 117, 108, 104, 32, 100, 105, 118, 32, 100, 105, 118, 117, 32, 114, 101, 109, 32, 114, 101, 109, 117, 32, 97, 100, 100, 105, 32, 97, 110, 100, 105, 32, 111, 114, 105, 32, 120, 111, 114, 105, 32, 115, 108, 116, 105, 32, 115, 108, 108, 105, 32, 115, 114, 108, 105, 32, 115, 114, 97, 105, 32, 108, 117, 105, 32, 108, 119, 32, 108, 104, 32, 108, 104, 117, 32, 108, 98, 32, 108, 98, 117, 32, 115, 119, 32, 115, 104, 32, 115, 98, 32, 98, 101, 113, 32, 98, 110, 101, 32, 98, 108, 116, 32, 98, 103, 101, 32, 98, 108, 116, 117, 32, 98, 103, 101, 117, 32, 106, 32, 104, 97, 108, 116, 32]⟩ : ByteArray).extract bg k)] rfl (row_list (wr.iterAt w.heap.size (txt allN) (k + 1)) [.string ((⟨#[97, 100, 100, 32, 115, 117, 98, 32, 97, 110, 100, 32, 111, 114, 32, 120, 111, 114, 32, 115, 108, 108, 32, 115, 114, 108, 32, 115, 114, 97, 32, 115, 108, 116, 32, 115, 108, 116, 117, 32, 109, 117, 108, 32, 109, 117, 108, 104, 32, 100, 105, 118, 32, 100, 105, 118, 117, 32, 114, 101, 109, 32, 114, 101, 109, 117, 32, 97, 100, 100, 105, 32, 97, 110, 100, 105, 32, 111, 114, 105, 32, 120, 111, 114, 105, 32, 115, 108, 116, 105, 32, 115, 108, 108, 105, 32, 115, 114, 108, 105, 32, 115, 114, 97, 105, 32, 108, 117, 105, 32, 108, 119, 32, 108, 104, 32, 108, 104, 117, 32, 108, 98, 32, 108, 98, 117, 32, 115, 119, 32, 115, 104, 32, 115, 98, 32, 98, 101, 113, 32, 98, 110, 101, 32, 98, 108, 116, 32, 98, 103, 101, 32, 98, 108, 116, 117, 32, 98, 103, 101, 117, 32, 106, 32, 104, 97, 108, 116, 32]⟩ : ByteArray).extract bg k)] _) (by simp [Value.oneCell']) (by unfold maxLen; omega) (by omega) (by rw [World.size_alloc, HSZ2.out]; omega) ?_; intro v3 y3 hO3 hg3; have HO3 := Lib.hid hO3; have HG3 := Lib.hid hg3; clear hO3 hg3)
        go_roundw
        case rel =>
          refine ⟨k + 1, by omega, by rw [HS2.out]; simp, ?_, ?_, ?_⟩
          · rw [HG3.out.block _ (by rw [World.size_alloc, HSZ2.out]; omega) (fun e => by have := (HO2.out.lt _ e.symm).1; omega)]
            exact (Below.heap_alloc _ _ _ (by rw [HSZ2.out]; exact hsz)).trans hit2.out
          · have := HO3.out
            rw [lit_eq, HCUT.out] at this
            rw [HS2.out]
            simp only [List.length_append, List.length_cons, List.length_nil, List.map_append, List.map_cons, List.map_nil]
            exact this
          · exact (HB2.out.alloc (by rw [HSZ2.out]; omega) _).grown HG3.out (by rw [World.size_alloc, HSZ2.out]; omega) (fun j hj => by have := (HO2.out.lt j hj).1; omega)
        case measure =>
          simp only [World.iterPos, HIT.out]
          have : y3.heap[w.heap.size]? = some (.stringIter (txt allN) (k + 1)) := by
            rw [HG3.out.block _ (by rw [World.size_alloc, HSZ2.out]; omega) (fun e => by have := (HO2.out.lt _ e.symm).1; omega)]
            exact (Below.heap_alloc _ _ _ (by rw [HSZ2.out]; exact hsz)).trans hit2.out
          rw [this]
          simp only
          omega
      · have HS2 : Hid (atN (k + 1) = atN k) := by show _ = _; rw [HST.out, if_neg (fun e => h32 (by injection e))]
        have hne : ((c.toNat : Int) == 32) = false := by
          simp only [beq_eq_false_iff_ne, ne_eq]
          intro e
          apply h32
          have : c.toNat = 32 := by omega
          exact UInt8.toNat_inj.1 this
        generalize (c.toNat : Int) = C at *
        clear HST hc hc128 q1 q2 hit hown hB hk hsz2
        go_wp2_with fail
        go_roundw
        case rel => exact ⟨k + 1, by omega, by rw [HS2.out], hit2.out, by rw [HS2.out]; exact HO2.out, HB2.out⟩
        case measure =>
          simp only [World.iterPos, hit2.out, HIT.out]
          omega
    · have hnx := fun ty => next_none (P := Tryd.prog) hit (show ¬ k < (txt allN).size by omega) ty
      have hkk : k = 169 := by omega
      clear hown hB hit hk
      go_wp2_with fail
      go_ret
      have e : (atN k).1 = namesZ := by rw [hkk]; exact atN_end
      refine ⟨.slice A (atN k).1.length cc, rfl, ?_, HB.out⟩
      have := HO.out
      rw [e] at this ⊢
      exact own_base this (Nat.le_succ _)
end Go.Proofs.YtfdegdbknponkaaDoor.Words

/- A writer in its block: its names and its text; what a call that writes leaves. -/
namespace Go.Proofs.YtfdegdbknponkaaDoor.Words
set_option maxRecDepth 100000
open Go.RowKit Go.Shelf Go.Lib
set_option linter.unusedVariables false
set_option linter.unusedSimpArgs false

theorem strCells_txt (l : List UInt8) : strCells (txt l) = l.map (fun c => Value.int .u8 c.toNat) := by
  unfold strCells; rw [txt_data]
def byteL (xs : List UInt8) : List Value := xs.map (fun c => Value.int .u8 c.toNat)
theorem byteL_append (a b : List UInt8) : byteL (a ++ b) = byteL a ++ byteL b := by simp [byteL]
/-- A writer in block b. -/
def Wr (w : World) (b : Nat) (vn vt : Value) (xs : List UInt8) : Prop :=
  Box w b [vn, vt] ∧ (∃ g o c, vn = .slice (some ⟨g, o, none⟩) 41 c ∧ g < b) ∧ Row w b 1 vn 41 namesL ∧ w.ownsRow (b + 1) 5 1 vt xs.length (byteL xs)
/-- What a call that writes leaves: what lies below stands, and so does what holds no bytes. -/
structure WrT (b : Nat) (w w' : World) : Prop where
  bel : Below b w w'
  mid : ∀ k, k < w.heap.size → k ≠ b → (∀ cs f, w.heap[k]? ≠ some (.cells cs 5 f)) → w'.heap[k]? = w.heap[k]?
section
variable {w w' w'' : World} {b : Nat} {vn vt : Value} {xs : List UInt8}
theorem WrT.size (h : WrT b w w') : w.heap.size ≤ w'.heap.size := h.bel.size
theorem WrT.trans (h : WrT b w w') (g : WrT b w' w'') : WrT b w w'' := by
  refine ⟨h.bel.trans g.bel, fun k hk hs ht => ?_⟩
  have e := h.mid k hk hs ht
  refine (g.mid k (Nat.lt_of_lt_of_le hk h.size) hs (fun cs f => ?_)).trans e
  rw [e]; exact ht cs f
theorem WrT.of_below (h : Below w.heap.size w w') (hb : b ≤ w.heap.size) : WrT b w w' := ⟨h.mono hb, fun k hk _ _ => h.block k hk⟩
theorem WrT.go (h : WrT b w w') (hb : b ≤ w.heap.size) (g : Below w'.heap.size w' w'') : WrT b w w'' := h.trans (WrT.of_below g (Nat.le_trans hb h.size))
/-- A row of the call's own that holds no bytes. -/
theorem WrT.own {base s n : Nat} {e : TypeId} {v : Value} {l : List Value} (h : WrT b w w') (ho : w.ownsRow base e s v n l) (hb : b < base) (he : e ≠ 5) : w'.ownsRow base e s v n l := by
  obtain ⟨h0, h1⟩ := ho
  refine ⟨h0, ?_⟩
  rcases h1 with h1 | ⟨g, cap, cur, e0, h1, h2, h3⟩
  · exact .inl h1
  · refine .inr ⟨g, cap, cur, e0, h1, ?_, h3⟩
    refine (h.mid g (Array.getElem?_eq_some_iff.1 h2).1 (by omega) (fun cs f hh => ?_)).trans h2
    rw [h2] at hh
    simp only [Option.some.injEq, Obj.cells.injEq] at hh
    exact he hh.2.1
/-- A block of the call's own that holds no bytes. -/
theorem WrT.cell {g o : Nat} {e : TypeId} {cs : Array Value} {f : Nat × Nat} {v : Value} (h : WrT b w w') (hg : w.heap[g]? = some (.cells cs e f)) (hb : g ≠ b) (he : e ≠ 5) (hv : w.cell? ⟨g, o, none⟩ = some v) : w'.cell? ⟨g, o, none⟩ = some v := by
  have := h.mid g (Array.getElem?_eq_some_iff.1 hg).1 hb (fun c2 f2 hh => by
    rw [hg] at hh
    simp only [Option.some.injEq, Obj.cells.injEq] at hh
    exact he hh.2.1)
  exact (World.cell?_of_block (w := w) (a := ⟨g, o, none⟩) this).trans hv
theorem Wr.lt (h : Wr w b vn vt xs) : b < w.heap.size := h.1.lt
theorem Wr.go (h : Wr w b vn vt xs) (hb : Below w.heap.size w w') : Wr w' b vn vt xs := by
  have hl := h.lt
  obtain ⟨h1, h2, h3, h4⟩ := h
  exact ⟨h1.below hb hl, h2, h3.below (hb.mono (Nat.le_of_lt hl)), own_below h4 hb⟩
theorem Wr.own (h : Wr w b vn vt xs) : ∀ g, vt.ownBlock = some g → b + 1 ≤ g ∧ g < w.heap.size := fun g hg => h.2.2.2.lt g hg
theorem Wr.form (h : Wr w b vn vt xs) : ∃ A c, vt = .slice A xs.length c := (Row.of_own h.2.2.2).form
theorem Wr.bytes (h : Wr w b vn vt xs) : ∀ g, vt.ownBlock = some g → ∃ cs f, w.heap[g]? = some (.cells cs 5 f) := by
  intro g hg
  rcases h.2.2.2.2 with ⟨rfl, _⟩ | ⟨g1, c1, cur1, rfl, _, a1, _⟩
  · cases hg
  · simp only [Value.ownBlock, Option.some.injEq] at hg
    subst hg
    exact ⟨_, _, a1⟩
/-- More text. -/
theorem Wr.app {v3 : Value} {t : List UInt8} (h : Wr w b vn vt xs) (hg : w.grownBy w' vt.ownBlock) (ho : w'.ownsRow (b + 1) 5 1 v3 (xs.length + t.length) (byteL xs ++ byteL t)) :
    Wr (w'.setCell ⟨b, 1, none⟩ v3) b vn v3 (xs ++ t) ∧ WrT b w (w'.setCell ⟨b, 1, none⟩ v3) := by
  have hl := h.lt
  have hob := h.own
  have hby := h.bytes
  obtain ⟨h1, h2, h3, h4⟩ := h
  have hK : KeepS (fun k => k = b ∨ vt.ownBlock = some k) w (w'.setCell ⟨b, 1, none⟩ v3) := (KeepS.of_grown hg (fun k hk => .inr hk)).setCell (.inl rfl) 1 v3
  have hB : Below b w (w'.setCell ⟨b, 1, none⟩ v3) := hK.below (Nat.le_of_lt hl) (fun k hk => by
    rcases hk with e | e
    · omega
    · have := (hob k e).1; omega)
  refine ⟨⟨?_, h2, h3.below hB, ?_⟩, hB, fun k hk hs ht => hK.block k hk ?_⟩
  · exact (h1.grown hg (fun e => by have := (hob b e.symm).1; omega)).setCell 1 v3
  · rw [byteL_append, List.length_append]
    exact ownsRow_setCell_below ho (a := ⟨b, 1, none⟩) (Nat.lt_succ_self b) v3
  · rintro (e | e)
    · exact hs e
    · obtain ⟨cs, f, h⟩ := hby k e
      exact ht cs f h
end

/-! ### the tables that a writer reads -/
def shapesS : List (List UInt8) := [[], [32, 68, 44, 32, 65, 44, 32, 66], [32, 68, 44, 32, 65, 44, 32, 78], [32, 68, 44, 32, 78], [32, 68, 44, 32, 78, 40, 65, 41], [32, 66, 44, 32, 78, 40, 65, 41], [32, 65, 44, 32, 66, 44, 32, 78], [32, 78], []]
def ShapesS (w : World) : Prop := 3 < w.heap.size ∧ ∀ k t, shapesS[k]? = some t → w.cell? ⟨3, k, none⟩ = some (.string (txt t))
def TabsS (w : World) : Prop := Lib.TabIs Tryd.prog w "internal/strconv.uint64pow10" .u64 Lib.pow10Tab ∧ ShapesS w
theorem TabsS.below {w w' : World} (h : TabsS w) (hb : Below w.heap.size w w') : TabsS w' :=
  ⟨TabIs_below (g := 6) (by kernel_rfl) h.1 hb, ⟨Nat.lt_of_lt_of_le h.2.1 hb.size, fun k t ht => below_cell hb h.2.1 (h.2.2 k t ht)⟩⟩
/-- They are, whatever turns from block B on. -/
def TabsSB (B : Nat) (w : World) : Prop := ∀ x, Below B w x → TabsS x
theorem TabsSB.now {B : Nat} {w : World} (h : TabsSB B w) : TabsS w := h w (Below.refl _ _)
theorem TabsSB.go {B : Nat} {w w' : World} (h : TabsSB B w) (hb : Below B w w') : TabsSB B w' := fun x hx => h x (hb.trans hx)
theorem TabsS.all {w : World} (h : TabsS w) : TabsSB w.heap.size w := fun x hx => h.below hx

/-! ### what a text is put together of -/
inductive Part where
  | s (t : List UInt8)
  | n (k : Int)
  | op (k : Int)
  | reg (k : Int)
  | ins (i : Ins)
def insV (i : Ins) : Value := .agg #[.int .i64 i.op, .int .i64 i.d, .int .i64 i.a, .int .i64 i.b, .int .i64 i.imm]
def Part.val : Part → Value
  | .s t => .iface 9 (.string (txt t))
  | .n k => .iface 3 (.int .i64 k)
  | .op k => .iface 129 (.int .i64 k)
  | .reg k => .iface 149 (.int .i64 k)
  | .ins i => .iface 38 (insV i)
/-- What a part's text is; none: it has none. -/
def Part.text : Part → Option (List UInt8)
  | .s t => some t
  | .n k => some (decN k)
  | .op k => some (nameN k)
  | .reg k => if 0 ≤ k ∧ k ≤ 15 then some (regS k) else none
  | .ins i => if rightB i = true then some (showI i) else none
/-- Which parts may be written at all. -/
def Part.ok : Part → Prop
  | .s t => t.length ≤ 60
  | .n k => -9223372036854775808 ≤ k ∧ k ≤ 9223372036854775807 ∧ (decN k).length ≤ 60
  | .op k => 1 ≤ k ∧ k ≤ 41
  | .reg k => -9223372036854775808 ≤ k ∧ k ≤ 9223372036854775807
  | .ins i => i.Fits
def partsTxt : List Part → Option (List UInt8)
  | [] => some []
  | p :: ps => match p.text, partsTxt ps with
    | some a, some b => some (a ++ b)
    | _, _ => none
theorem partsTxt_cons {p : Part} {ps : List Part} {a b : List UInt8} (h1 : p.text = some a) (h2 : partsTxt ps = some b) : partsTxt (p :: ps) = some (a ++ b) := by unfold partsTxt; rw [h1, h2]
theorem partsTxt_append : ∀ {ps qs : List Part} {a b : List UInt8}, partsTxt ps = some a → partsTxt qs = some b → partsTxt (ps ++ qs) = some (a ++ b)
  | [], qs, a, b, h1, h2 => by
    unfold partsTxt at h1; injection h1 with h1; subst h1; exact h2
  | p :: ps, qs, a, b, h1, h2 => by
    unfold partsTxt at h1
    split at h1
    · rename_i x y hx hy
      injection h1 with h1; subst h1
      rw [List.cons_append, partsTxt_cons hx (partsTxt_append hy h2), List.append_assoc]
    · cases h1
theorem Part.text_len {p : Part} (h : p.ok) {t : List UInt8} (ht : p.text = some t) : t.length ≤ 60 := by
  cases p with
  | s u => injection ht with ht; subst ht; exact h
  | n k => injection ht with ht; subst ht; exact h.2.2
  | op k => injection ht with ht; subst ht; have := nameN_len h; omega
  | reg k =>
    change (if 0 ≤ k ∧ k ≤ 15 then some (regS k) else none) = some t at ht
    split at ht
    · rename_i hk; injection ht with ht; subst ht; have := regS_len hk; omega
    · cases ht
  | ins i =>
    change (if rightB i = true then some (showI i) else none) = some t at ht
    split at ht
    · rename_i hk; injection ht with ht; subst ht; have := showI_len hk; omega
    · cases ht
end Go.Proofs.YtfdegdbknponkaaDoor.Words

/- Contract of package asm's check. -/
namespace Go.Proofs.YtfdegdbknponkaaDoor.Words
set_option maxRecDepth 100000
open Go.RowKit Go.Shelf Go.Lib
set_option linter.unusedVariables false
set_option linter.unusedSimpArgs false

def checkE (l : List Ins) (sz : Int) (m : Nat) : Int := if targetsOk l.length 0 l = false then 4 else if rightZ l sz m = true then 0 else 1
theorem checkE_z (p : Prog) : checkZ p = if checkE p.code p.size p.data.length = 0 then .ok p else .bad 0 (checkE p.code p.size p.data.length) := by
  unfold checkZ checkE
  by_cases h : targetsOk p.code.length 0 p.code = false
  · rw [if_pos h, if_pos h, if_neg (by decide)]
  · rw [if_neg h, if_neg h]
    by_cases h2 : rightZ p.code p.size p.data.length = true
    · rw [if_pos h2, if_pos h2, if_pos rfl]
    · rw [if_neg h2, if_neg h2, if_neg (by decide)]
set_option maxHeartbeats 2000000 in
theorem asmCheck_any (A : Option Addr) (c : Nat) (sz : Int) (A' : Option Addr) (m c' : Nat) (l : List Ins) (w : World) (hr : Row w w.heap.size 5 (.slice A l.length c) l.length (codeCells l)) (hm : m ≤ c') (hc' : c' ≤ 9223372036854775807) (hsmall : l.length ≤ 8192) :
    Calls Tryd.prog 35 #[.agg #[.slice A l.length c, .int .i64 sz, .slice A' m c']] w fun e w' => e = .returned (.int .i64 (checkE l sz m)) ∧ Below w.heap.size w w' := by
  have X1 : Hid (Box (w.alloc (.cells #[.slice A l.length c, .int .i64 sz, .slice A' m c'] 26)) w.heap.size [.slice A l.length c, .int .i64 sz, .slice A' m c']) := Box.new w [.slice A l.length c, .int .i64 sz, .slice A' m c'] _
  have B1 : Hid (Below w.heap.size w (w.alloc (.cells #[.slice A l.length c, .int .i64 sz, .slice A' m c'] 26))) := (Below.refl _ _).alloc (Nat.le_refl _) _
  have HR := Lib.hid hr
  have cT := Lib.hid (targets_any A c sz (.slice A' m c') l (w.alloc (.cells #[.slice A l.length c, .int .i64 sz, .slice A' m c'] 26)) ((hr.alloc (Nat.le_refl _) _).more (by simp)) hsmall)
  have HM := Lib.hid hm
  have HC := Lib.hid hc'
  have hW : (w.alloc (.cells #[.slice A l.length c, .int .i64 sz, .slice A' m c'] 26)).heap.size = w.heap.size + 1 := by simp
  clear hr hm hc' hsmall
  go_enter Tryd.func35, Tryd.ntmps35
  go_wp2_with fail
  refine cT.out.mono ?_; rintro en w2 ⟨rfl, hb2⟩
  cases ht : targetsOk l.length 0 l
  · have e4 : errT false = 4 := rfl
    rw [e4]
    have HB2 := Lib.hid (B1.out.trans (hb2.mono (by omega)))
    have HE : Hid (checkE l sz m = 4) := by show _ = _; unfold checkE; rw [if_pos ht]
    clear hb2 ht
    go_wp2_with fail
    go_ret
    exact ⟨by rw [HE.out]; rfl, HB2.out⟩
  · have e4 : errT true = 0 := rfl
    rw [e4]
    have HB2 := Lib.hid (B1.out.trans (hb2.mono (by omega)))
    have X2 := X1.out.below hb2 (by omega)
    have y0 := X2.cell (k := 0) rfl
    have y1 := X2.cell (k := 1) rfl
    have y2 := X2.cell (k := 2) rfl
    have cR := Lib.hid (imgRight_any A c sz A' m c' l w2 ((HR.out.below HB2.out).more HB2.out.size) HM.out HC.out)
    have HT := Lib.hid ht
    clear hb2 ht X2
    go_wp2_with fail
    refine cR.out.mono ?_; rintro en w3 ⟨rfl, hb3⟩
    have HB3 := Lib.hid (HB2.out.trans (hb3.mono HB2.out.size))
    clear hb3
    cases hz : rightZ l sz m
    · have HE : Hid (checkE l sz m = 1) := by show _ = _; unfold checkE; rw [if_neg (by rw [HT.out]; decide), hz]; rfl
      clear hz
      go_wp2_with fail
      go_ret
      exact ⟨by rw [HE.out]; rfl, HB3.out⟩
    · have HE : Hid (checkE l sz m = 0) := by show _ = _; unfold checkE; rw [if_neg (by rw [HT.out]; decide), hz]; rfl
      clear hz
      go_wp2_with fail
      go_ret
      exact ⟨by rw [HE.out]; rfl, HB3.out⟩
end Go.Proofs.YtfdegdbknponkaaDoor.Words

/- Contract of package asm's Read. -/
namespace Go.Proofs.YtfdegdbknponkaaDoor.Words
set_option maxRecDepth 100000
open Go.RowKit Go.Shelf Go.Lib
set_option linter.unusedVariables false
set_option linter.unusedSimpArgs false

/-- What Read answers. -/
def ReadOut (Z : AsmR) (base : Nat) (e : Ending) (w : World) : Prop :=
  match Z with
  | .bad a k => e = .returned (.tuple #[.agg #[.slice none 0 0, .int .i64 0, .slice none 0 0], .int .i64 (a : Int), .int .i64 k])
  | .ok p => ∃ vc vd, e = .returned (.tuple #[.agg #[vc, .int .i64 p.size, vd], .int .i64 (-1), .int .i64 0]) ∧ w.ownsRow base 38 5 vc p.code.length (codeCells p.code) ∧ w.ownsRow base 5 1 vd p.data.length (p.data.map (Value.int .u8))
theorem ReadOut.bad {Z : AsmR} {base : Nat} {e : Ending} {w : World} {a : Nat} {k : Int} (h : Z = .bad a k) (he : e = .returned (.tuple #[.agg #[.slice none 0 0, .int .i64 0, .slice none 0 0], .int .i64 (a : Int), .int .i64 k])) : ReadOut Z base e w := by
  subst h; exact he
theorem ReadOut.ok {Z : AsmR} {base : Nat} {e : Ending} {w : World} {p : Prog} {vc vd : Value} (h : Z = .ok p) (he : e = .returned (.tuple #[.agg #[vc, .int .i64 p.size, vd], .int .i64 (-1), .int .i64 0])) (h1 : w.ownsRow base 38 5 vc p.code.length (codeCells p.code)) (h2 : w.ownsRow base 5 1 vd p.data.length (p.data.map (Value.int .u8))) : ReadOut Z base e w := by
  subst h; exact ⟨vc, vd, he, h1, h2⟩
theorem next_head (r : List Tok) (e : Nat) : (nextT r e).at_ = headAt r e := by cases r <;> rfl
theorem layF_at {ps : List PartZ} {k : Nat} {x : PartZ} (hx : ps[k]? = some x) (ho : (ps.map (·.at_)).Pairwise (· < ·)) (p : Prog) :
    layF ps (ps.take k) (ps.drop k) p = match lay1 (fun t => firstL t ps 0) x p with | .bad a e => .bad a e | .ok p' => layF ps (ps.take (k + 1)) (ps.drop (k + 1)) p' := by
  have hd : ps.drop k = x :: ps.drop (k + 1) := by
    obtain ⟨hk, rfl⟩ := List.getElem?_eq_some_iff.1 hx
    exact List.drop_eq_getElem_cons hk
  have hs : ps = ps.take k ++ x :: ps.drop (k + 1) := by
    conv => lhs; rw [← List.take_append_drop k ps]
    rw [hd]
  have h := layF_step (pre := ps.take k) (xs := ps.drop (k + 1)) (x := x) p (by rw [← hs]; exact ho)
  rw [← hs] at h
  rw [hd, take_snoc hx]
  exact h
theorem lay1_err {f : List UInt8 → Option (Int × Int)} {x : PartZ} {p : Prog} : ∀ a e, lay1 f x p = .bad a e → e ≠ 0 := by
  intro a e h
  unfold lay1 ins1 put1 at h
  repeat' split at h
  all_goals first
    | (cases h; done)
    | (injection h with h1 h2; subst h2; decide)
theorem LexOut.cases {Z : LexR} {base : Nat} {e : Ending} {w : World} (h : LexOut Z base e w) : (∃ a k, Z = .bad a k ∧ e = .returned (.tuple #[.slice none 0 0, .int .i64 (a : Int), .int .i64 k])) ∨ ∃ t v, Z = .toks t ∧ e = .returned (.tuple #[v, .int .i64 (-1), .int .i64 0]) ∧ w.ownsRow base 62 4 v t.length (toksL t) := by
  cases Z with
  | bad a k => exact .inl ⟨a, k, rfl, h⟩
  | toks t => obtain ⟨v, h1, h2⟩ := h; exact .inr ⟨t, v, rfl, h1, h2⟩

set_option maxHeartbeats 8000000 in
theorem asmRead_any (s : ByteArray) (w : World) (hs : s.size ≤ 9223372036854775807) (hT : Tabs w) (hSh : Shapes w) (hfew : ∀ t, lexZ s.data.toList = .toks t → (textT t).1 = true → nIns (textT t).2.2 ≤ 8192) :
    Calls Tryd.prog 13 #[.string s] w fun e w' => ReadOut (asmZ s.data.toList) w.heap.size e w' ∧ Below w.heap.size w w' := by
  have hl := data_len s
  have HL := Lib.hid hl
  obtain ⟨Z, hZ⟩ : ∃ Z, Z = asmZ s.data.toList := ⟨_, rfl⟩
  have HZ := Lib.hid hZ
  rw [← hZ]
  have R0 : Hid (Box (w.alloc (.cells #[.slice none 0 0, .int .i64 0, .slice none 0 0] 26)) w.heap.size [.slice none 0 0, .int .i64 0, .slice none 0 0]) := Box.new w [.slice none 0 0, .int .i64 0, .slice none 0 0] _
  have B0 : Hid (Below w.heap.size w (w.alloc (.cells #[.slice none 0 0, .int .i64 0, .slice none 0 0] 26))) := (Below.refl _ _).alloc (Nat.le_refl _) _
  have hW1 : (w.alloc (.cells #[.slice none 0 0, .int .i64 0, .slice none 0 0] 26)).heap.size = w.heap.size + 1 := by simp
  have cS := Lib.hid (split_any s (w.alloc (.cells #[.slice none 0 0, .int .i64 0, .slice none 0 0] 26)) hs (hT.below ((Below.refl _ _).alloc (Nat.le_refl _) _)))
  have HSH := Lib.hid (hSh.below ((Below.refl w.heap.size w).alloc (Nat.le_refl _) (.cells #[.slice none 0 0, .int .i64 0, .slice none 0 0] 26)))
  have hgw : 2 < w.heap.size := hSh.1
  have HFEW := Lib.hid hfew
  have hs0 : (0 : Int) ≤ s.size := by omega
  clear hl hZ hT hSh hfew hs
  go_enter Tryd.func13, Tryd.ntmps13
  go_wp2_with fail
  refine cS.out.mono ?_; rintro en w2 ⟨ho, hb2⟩
  have R2 : Hid (Box w2 w.heap.size [.slice none 0 0, .int .i64 0, .slice none 0 0]) := R0.out.below hb2 (by omega)
  have B2 := Lib.hid (B0.out.trans (hb2.mono (by omega)))
  have B12 := Lib.hid hb2
  have hsz2 : w.heap.size + 1 ≤ w2.heap.size := by have := hb2.size; omega
  clear hb2
  rcases ho.cases with ⟨a, k, hz, rfl⟩ | ⟨t, v, hz, rfl, hown⟩
  · have HB : Hid (Z = .bad a k) := by show _ = _; rw [HZ.out]; unfold asmZ; rw [hz]
    have hk : (k != 0) = true := by
      have hl := HL.out
      by_cases hlen : s.data.toList.length ≤ 20000
      · have := lexZ_good hlen
        rw [hz] at this
        obtain ⟨_, h2⟩ := this
        rcases h2 with rfl | rfl <;> rfl
      · unfold lexZ at hz
        rw [if_pos (by omega)] at hz
        injection hz with _ hz
        subst hz; rfl
    have r0 := R2.out.cell (k := 0) rfl
    have r1 := R2.out.cell (k := 1) rfl
    have r2 := R2.out.cell (k := 2) rfl
    have g0 := R2.out.frozen 0
    have g1 := R2.out.frozen 1
    have g2 := R2.out.frozen 2
    clear ho hz
    go_wp2_with fail
    refine bodyPost_ret (v := .tuple #[.agg #[.slice none 0 0, .int .i64 0, .slice none 0 0], .int .i64 (a : Int), .int .i64 k]) (by simp [results, Tryd.results13, go_sem, r0, r1, r2]) rfl ⟨ReadOut.bad HB.out rfl, ((B2.out.setCell (p := ⟨w.heap.size, 0, none⟩) (Nat.le_refl _) _).setCell (p := ⟨w.heap.size, 1, none⟩) (Nat.le_refl _) _).setCell (p := ⟨w.heap.size, 2, none⟩) (Nat.le_refl _) _⟩
  · have HB : Hid (Z = partsZ s.data.toList.length (textT t)) := by show _ = _; rw [HZ.out]; unfold asmZ; rw [hz]
    have HTI := Lib.hid (lex_in hz)
    have HTL := Lib.hid (lex_len hz)
    have HTO := Lib.hid (lex_order hz)
    have HFW := Lib.hid (HFEW.out t hz)
    have HSL := Lib.hid (lexZ_toks hz).1
    obtain ⟨A, tc, rfl⟩ := (Row.of_own hown).form
    have HOT := Lib.hid (Row.of_own hown)
    clear ho hz hown HFEW
    go_wp2_with fail
    refine (names_any _).mono ?_; rintro en w3 ⟨vn, rfl, hon, hb3⟩
    obtain ⟨An, cn, rfl⟩ := (Row.of_own hon).form
    have B3 := Lib.hid (B2.out.trans (hb3.mono B2.out.size))
    have R3 : Hid (Box w3 w.heap.size [.slice none 0 0, .int .i64 0, .slice none 0 0]) := R2.out.below hb3 (by omega)
    have HO3 := Lib.hid ((HOT.out.below hb3).more hb3.size)
    have HN3 := Lib.hid (Row.of_own hon)
    have hsz3 : w.heap.size + 1 ≤ w3.heap.size := by have := hb3.size; omega
    have SH3 := Lib.hid ((HSH.out.below B12.out).below hb3)
    clear hb3 hon
    -- the parser
    have P4 : Hid (Par (w3.alloc (.cells #[.slice A t.length tc, .int .i64 (s.size : Int), .slice An 41 cn, .slice none 0 0] 60)) w3.heap.size s.size t (.slice none 0 0) []) :=
      ⟨.slice A t.length tc, .slice An 41 cn, Box.new w3 [.slice A t.length tc, .int .i64 (s.size : Int), .slice An 41 cn, .slice none 0 0] _, HO3.out.alloc (Nat.le_refl _) _, HN3.out.alloc (Nat.le_refl _) _, World.ownsRow_nil _ _ _ _, HTI.out⟩
    have B4 : Hid (Below w3.heap.size w3 (w3.alloc (.cells #[.slice A t.length tc, .int .i64 (s.size : Int), .slice An 41 cn, .slice none 0 0] 60))) := (Below.refl _ _).alloc (Nat.le_refl _) _
    have cX := Lib.hid (asmText_any _ w3.heap.size s.size t (.slice none 0 0) [] P4.out (SH3.out.below B4.out) (by omega) (by have := HTL.out; have := HSL.out; simp only [List.length_nil]; omega))
    go_wp2_with fail
    refine cX.out.mono ?_; rintro en w5 ⟨rfl, vp, hp5, hb5⟩
    rw [List.nil_append] at hp5
    have P5 := Lib.hid hp5
    have B5 := Lib.hid (B4.out.trans hb5)
    have R5 : Hid (Box w5 w.heap.size [.slice none 0 0, .int .i64 0, .slice none 0 0]) := R3.out.below B5.out (by omega)
    have hsz5 : w3.heap.size < w5.heap.size := hp5.lt
    clear hp5 hb5
    obtain ⟨X, hX⟩ : ∃ X, X = textT t := ⟨_, rfl⟩
    have HXX := Lib.hid hX
    rw [← hX] at P5 HB HFW ⊢
    clear hX
    cases hx1 : X.1
    · have HB6 : Hid (Z = .bad (headAt X.2.1 s.size) 5) := by
        show _ = _
        rw [HB.out]; unfold partsZ; rw [if_neg (by rw [hx1]; decide), HL.out]
      have hN := next_any w5 w3.heap.size s.size X.2.1 vp X.2.2 P5.out
      have fd := field_at (nextT X.2.1 s.size)
      have HNH := Lib.hid (next_head X.2.1 s.size)
      clear hx1
      generalize nextT X.2.1 s.size = nt at *
      go_wp2_with fail
      refine hN.mono ?_; rintro en w6 ⟨rfl, hb6⟩
      have R6 : Box w6 w.heap.size [.slice none 0 0, .int .i64 0, .slice none 0 0] := R5.out.below hb6 (by omega)
      have B6 := Lib.hid ((B3.out.trans (B5.out.mono (by omega))).trans (hb6.mono (by omega)))
      have r0 := R6.cell (k := 0) rfl
      have r1 := R6.cell (k := 1) rfl
      have r2 := R6.cell (k := 2) rfl
      have g0 := R6.frozen 0
      have g1 := R6.frozen 1
      have g2 := R6.frozen 2
      clear hb6 R6
      go_wp2_with fail
      refine bodyPost_ret (v := .tuple #[.agg #[.slice none 0 0, .int .i64 0, .slice none 0 0], .int .i64 (nt.at_ : Int), .int .i64 5]) (by simp [results, Tryd.results13, go_sem, r0, r1, r2]) rfl ⟨ReadOut.bad (by rw [HB6.out, HNH.out]) rfl, ((B6.out.setCell (p := ⟨w.heap.size, 0, none⟩) (Nat.le_refl _) _).setCell (p := ⟨w.heap.size, 1, none⟩) (Nat.le_refl _) _).setCell (p := ⟨w.heap.size, 2, none⟩) (Nat.le_refl _) _⟩
    · have HB6 : Hid (Z = endZ (layF X.2.2 [] X.2.2 ⟨[], 0, []⟩)) := by
        show _ = _
        rw [HB.out]; unfold partsZ; rw [if_pos hx1]
      have HOK : Hid (∀ x ∈ X.2.2, PartOk x) := by
        intro x hx
        rw [HXX.out] at hx
        exact textF_ok _ _ HTI.out x hx
      have HPL : Hid (X.2.2.length ≤ 20000) := by
        show _ ≤ _
        have h1 := textF_len t.length t
        have h2 := HTL.out
        have h3 := HSL.out
        have h4 : X.2.2 = (textF t.length t).2.2 := by rw [HXX.out]; rfl
        rw [h4]; omega
      have HPO : Hid ((X.2.2.map (·.at_)).Pairwise (· < ·)) := by rw [HXX.out]; exact parts_order HTO.out
      have HNI : Hid (nIns X.2.2 ≤ 8192) := HFW.out hx1
      obtain ⟨Ap, cp, rfl⟩ := P5.out.form
      have z3 := P5.out.parts
      have HOW := Lib.hid P5.out.own
      generalize X.2.2 = ps at *
      have cL := Lib.hid (labelsOf_any (.slice Ap ps.length cp) ps w5 (Row.of_own HOW.out) (fun x hx => (HOK.out x hx).1) (by have := HPL.out; omega))
      clear HFW HXX HB P4 cX HZ hx1
      go_wp2_with fail
      refine cL.out.mono ?_; rintro en w6 ⟨rfl, hm6, hb6⟩
      have R6 : Hid (Box w6 w.heap.size [.slice none 0 0, .int .i64 0, .slice none 0 0]) := R5.out.below hb6 (by omega)
      have B6 := Lib.hid hb6
      have M6 := Lib.hid hm6
      have hsz6 : w5.heap.size < w6.heap.size := hm6.lt
      have z6 := below_cell hb6 hsz5 z3
      have hsz36 : w3.heap.size < w6.heap.size := by omega
      clear hm6 hb6 z3 cL
      have L7 : Hid (Bld (w6.alloc (.cells #[.map (some w5.heap.size), .slice none 0 0, .int .i64 0, .slice none 0 0] 67)) w6.heap.size w5.heap.size ps.length (fun t => firstL t ps 0) ⟨[], 0, []⟩ (.slice none 0 0) (.slice none 0 0)) :=
        ⟨Box.new w6 [.map (some w5.heap.size), .slice none 0 0, .int .i64 0, .slice none 0 0] _, M6.out.go ((Below.refl _ w6).alloc (Nat.le_refl _) _), World.ownsRow_nil _ _ _ _, World.ownsRow_nil _ _ _ _, hsz6⟩
      have B7 : Hid (Below w6.heap.size w6 (w6.alloc (.cells #[.map (some w5.heap.size), .slice none 0 0, .int .i64 0, .slice none 0 0] 67))) := (Below.refl _ w6).alloc (Nat.le_refl _) _
      have HBF := Lib.hid (fun (y : World) (hy : Below w6.heap.size w6 y) => ((B3.out.trans (B5.out.mono (show w.heap.size ≤ w3.heap.size by omega))).trans (B6.out.mono (show w.heap.size ≤ w5.heap.size by omega))).trans (hy.mono (show w.heap.size ≤ w6.heap.size by omega)))
      have HRF := Lib.hid (fun (y : World) (hy : Below w6.heap.size w6 y) => (R6.out.below hy (by omega)))
      have HPR := Lib.hid (fun (y : World) (hy : Below w6.heap.size w6 y) => (((Row.of_own HOW.out).below B6.out).more (Nat.le_of_lt hsz6)).below hy)
      have n0 : (ps.length : Int) ≤ 20000 := by have := HPL.out; omega
      go_wp2_with fail
      go_loopw [43] (fun i wr => ∃ (k : Nat) (p : Prog) (vc vd : Value), k ≤ ps.length ∧ i = .int .i64 k ∧ Bld wr w6.heap.size w5.heap.size ps.length (fun t => firstL t ps 0) p vc vd ∧ Below w6.heap.size w6 wr ∧ Z = endZ (layF ps (ps.take k) (ps.drop k) p) ∧ p.code.length ≤ nIns (ps.take k) ∧ p.data.length ≤ k) (fun i _ => ps.length - (intOf i).toNat)
      case atStart => exact ⟨0, ⟨[], 0, []⟩, _, _, Nat.zero_le _, rfl, L7.out, B7.out, HB6.out, Nat.zero_le _, Nat.zero_le _⟩
      case round =>
        obtain ⟨k, p, vc, vd, hk, rfl, hbl, hbw, hzz, hpc, hpd⟩ := hrel
        have HBL := Lib.hid hbl
        have HBW := Lib.hid hbw
        have HZZ := Lib.hid hzz
        have HPC := Lib.hid hpc
        have HPD := Lib.hid hpd
        have HK := Lib.hid hk
        by_cases hlt : k < ps.length
        · obtain ⟨x, hx⟩ : ∃ x, ps[k]? = some x := ⟨_, List.getElem?_eq_getElem (by omega)⟩
          have hxm : x ∈ ps := List.mem_iff_getElem?.2 ⟨k, hx⟩
          obtain ⟨g, off, hA, hg, _⟩ := (HPR.out wr hbw).at_ (by omega)
          subst hA
          obtain ⟨c0, c1, c2, c3, c4, c5, c6, c7, c8, c9, c10, c11, c12⟩ := range_cells ((HPR.out wr hbw).part hx)
          have hgr : g < wr.heap.size := by have := hbw.size; omega
          have kq : decide ((k : Int) < ps.length) = true := decide_eq_true (by omega)
          have kq2 : decide (k < ps.length) = true := decide_eq_true hlt
          have k0 : (0 : Int) ≤ k := by omega
          have k1 : (k : Int) < ps.length := by omega
          have hni1 : nIns (ps.take k) ≤ k := Nat.le_trans (nIns_le _) (List.length_take_le k ps)
          have cLay := Lib.hid (lay_any x p (wr.alloc (.cells #[.int .i64 x.kind, .int .i64 (x.at_ : Int), .int .i64 x.num, .string (txt x.name), .int .i64 x.ins.op, .int .i64 x.ins.d, .int .i64 x.ins.a, .int .i64 x.ins.b, .int .i64 x.ins.imm, .int .i64 x.target.kind, .int .i64 x.target.num, .int .i64 (x.target.at_ : Int), .string (txt x.target.text)] 69)) w6.heap.size w5.heap.size ps.length (fun t => firstL t ps 0) vc vd (hbl.alloc _) (by omega) (by omega) (HOK.out x hxm).1 (HOK.out x hxm).2 (fun r hr => by
            obtain ⟨a, q⟩ := r
            obtain ⟨q1, q2, _⟩ := firstL_in hr
            have := nIns_le ps
            have := HPL.out
            exact ⟨by simpa using q1, by simp only at q2 ⊢; omega⟩))
          have HNEZ := Lib.hid (lay1_err (f := fun t => firstL t ps 0) (x := x) (p := p))
          have HST := Lib.hid (layF_at hx HPO.out p)
          have HTK := Lib.hid (take_snoc hx)
          have HAL := Lib.hid (hbw.alloc (Nat.le_trans (Nat.le_refl _) hbw.size) (.cells #[.int .i64 x.kind, .int .i64 (x.at_ : Int), .int .i64 x.num, .string (txt x.name), .int .i64 x.ins.op, .int .i64 x.ins.d, .int .i64 x.ins.a, .int .i64 x.ins.b, .int .i64 x.ins.imm, .int .i64 x.target.kind, .int .i64 x.target.num, .int .i64 (x.target.at_ : Int), .string (txt x.target.text)] 69))
          have HLEN : Hid (∀ p', lay1 (fun t => firstL t ps 0) x p = .ok p' → p'.code.length ≤ nIns (ps.take (k + 1)) ∧ p'.data.length ≤ k + 1) := by
            intro p' hp'
            obtain ⟨q1, q2⟩ := lay1_len hp'
            have h1 := HPC.out
            have h2 := HPD.out
            rw [take_snoc hx, nIns_append]
            have h3 : nIns [x] = if x.kind = 2 then 1 else 0 := by rw [nIns_cons]; simp [nIns]
            rw [h3]
            exact ⟨by omega, by omega⟩
          generalize lay1 (fun t => firstL t ps 0) x p = LZ at *
          clear hbl hbw hzz hpc hpd hk hx hxm
          go_wp2_with fail
          refine cLay.out.mono ?_; rintro en w8 hL
          cases LZ with
          | bad a e =>
            obtain ⟨rfl, hb8⟩ := hL
            have HB8 := Lib.hid (HAL.out.trans hb8)
            have HZ8 : Hid (Z = .bad a e) := by show _ = _; rw [HZZ.out, HST.out]; rfl
            have he : (e != 0) = true := by simpa using HNEZ.out a e rfl
            have R8 := HRF.out w8 HB8.out
            have r0 := R8.cell (k := 0) rfl
            have r1 := R8.cell (k := 1) rfl
            have r2 := R8.cell (k := 2) rfl
            have g0 := R8.frozen 0
            have g1 := R8.frozen 1
            have g2 := R8.frozen 2
            have BF := Lib.hid (HBF.out w8 HB8.out)
            clear hb8 R8
            go_wp2_with fail
            refine bodyPost_ret (v := .tuple #[.agg #[.slice none 0 0, .int .i64 0, .slice none 0 0], .int .i64 (a : Int), .int .i64 e]) (by simp [results, Tryd.results13, go_sem, r0, r1, r2]) rfl ⟨ReadOut.bad HZ8.out rfl, ((BF.out.setCell (p := ⟨w.heap.size, 0, none⟩) (Nat.le_refl _) _).setCell (p := ⟨w.heap.size, 1, none⟩) (Nat.le_refl _) _).setCell (p := ⟨w.heap.size, 2, none⟩) (Nat.le_refl _) _⟩
          | ok p2 =>
            obtain ⟨rfl, ⟨vc2, vd2, hB2⟩, hb8⟩ := hL
            have HB8 := Lib.hid (HAL.out.trans hb8)
            have HL8 := Lib.hid hB2
            have HZ8 : Hid (Z = endZ (layF ps (ps.take (k + 1)) (ps.drop (k + 1)) p2)) := by show _ = _; rw [HZZ.out, HST.out]
            clear hb8 hB2
            go_wp2_with fail
            go_roundw
            case rel => exact ⟨k + 1, p2, vc2, vd2, by omega, rfl, HL8.out, HB8.out, HZ8.out, (HLEN.out p2 rfl).1, (HLEN.out p2 rfl).2⟩
            case measure => simp only [intOf]; omega
        · have kq : decide ((k : Int) < ps.length) = false := decide_eq_false (by omega)
          have kq2 : decide (k < ps.length) = false := decide_eq_false hlt
          have hkN : k = ps.length := by omega
          have HZ9 : Hid (Z = checkZ p) := by
            show _ = _
            rw [HZZ.out, hkN, List.drop_length]; rfl
          have hcode : p.code.length ≤ 8192 := by
            have h1 := HPC.out
            rw [hkN, List.take_length] at h1
            have h2 := HNI.out
            omega
          obtain ⟨Ac, cc, rfl⟩ := (Row.of_own hbl.2.2.1).form
          obtain ⟨Ad, cd, rfl⟩ := (Row.of_own hbl.2.2.2.1).form
          have b1 := hbl.1.cell (k := 1) rfl
          have b2 := hbl.1.cell (k := 2) rfl
          have b3 := hbl.1.cell (k := 3) rfl
          obtain ⟨dl1, dl2⟩ := (Row.of_own hbl.2.2.2.1).cap
          have cC := Lib.hid (asmCheck_any Ac cc p.size Ad p.data.length cd p.code wr (Row.of_own hbl.2.2.1) dl1 dl2 hcode)
          have HCK := Lib.hid (checkE_z p)
          clear hbl hbw hzz hpc hpd hk dl1 dl2
          go_wp2_with fail
          refine cC.out.mono ?_; rintro en w9 ⟨rfl, hb9⟩
          have HB9 := Lib.hid (HBW.out.trans (hb9.mono HBW.out.size))
          have R9 := HRF.out w9 HB9.out
          have hc6 : w6.heap.size < wr.heap.size := HBL.out.lt
          have e1 := below_cell hb9 hc6 b1
          have e2 := below_cell hb9 hc6 b2
          have e3 := below_cell hb9 hc6 b3
          have HO1 := Lib.hid (own_below HBL.out.2.2.1 hb9)
          have HO2 := Lib.hid (own_below HBL.out.2.2.2.1 hb9)
          have r0 := R9.cell (k := 0) rfl
          have r1 := R9.cell (k := 1) rfl
          have r2 := R9.cell (k := 2) rfl
          have g0 := R9.frozen 0
          have g1 := R9.frozen 1
          have g2 := R9.frozen 2
          have BF := Lib.hid (HBF.out w9 HB9.out)
          clear hb9 R9 b1 b2 b3
          generalize checkE p.code p.size p.data.length = E at *
          by_cases hE : E = 0
          · subst hE
            have HZ10 : Hid (Z = .ok p) := by show _ = _; rw [HZ9.out, HCK.out]; rfl
            go_wp2_with fail
            refine bodyPost_ret (v := .tuple #[.agg #[.slice Ac p.code.length cc, .int .i64 p.size, .slice Ad p.data.length cd], .int .i64 (-1), .int .i64 0]) (by simp [results, Tryd.results13, go_sem, r0, r1, r2]) rfl ⟨ReadOut.ok HZ10.out rfl ?_ ?_, ((BF.out.setCell (p := ⟨w.heap.size, 0, none⟩) (Nat.le_refl _) _).setCell (p := ⟨w.heap.size, 1, none⟩) (Nat.le_refl _) _).setCell (p := ⟨w.heap.size, 2, none⟩) (Nat.le_refl _) _⟩
            · exact own_base (ownsRow_setCell_below (ownsRow_setCell_below (ownsRow_setCell_below HO1.out (a := ⟨w.heap.size, 0, none⟩) (show w.heap.size < w6.heap.size + 1 by omega) _) (a := ⟨w.heap.size, 1, none⟩) (show w.heap.size < w6.heap.size + 1 by omega) _) (a := ⟨w.heap.size, 2, none⟩) (show w.heap.size < w6.heap.size + 1 by omega) _) (by omega)
            · exact own_base (ownsRow_setCell_below (ownsRow_setCell_below (ownsRow_setCell_below HO2.out (a := ⟨w.heap.size, 0, none⟩) (show w.heap.size < w6.heap.size + 1 by omega) _) (a := ⟨w.heap.size, 1, none⟩) (show w.heap.size < w6.heap.size + 1 by omega) _) (a := ⟨w.heap.size, 2, none⟩) (show w.heap.size < w6.heap.size + 1 by omega) _) (by omega)
          · have hE2 : (E != 0) = true := by simpa using hE
            have HZ10 : Hid (Z = .bad 0 E) := by show _ = _; rw [HZ9.out, HCK.out, if_neg hE]
            clear hE
            go_wp2_with fail
            refine bodyPost_ret (v := .tuple #[.agg #[.slice none 0 0, .int .i64 0, .slice none 0 0], .int .i64 0, .int .i64 E]) (by simp [results, Tryd.results13, go_sem, r0, r1, r2]) rfl ⟨ReadOut.bad HZ10.out rfl, ((BF.out.setCell (p := ⟨w.heap.size, 0, none⟩) (Nat.le_refl _) _).setCell (p := ⟨w.heap.size, 1, none⟩) (Nat.le_refl _) _).setCell (p := ⟨w.heap.size, 2, none⟩) (Nat.le_refl _) _⟩
end Go.Proofs.YtfdegdbknponkaaDoor.Words

/- Two instructions compared. -/
namespace Go.Proofs.YtfdegdbknponkaaDoor.Words
set_option maxRecDepth 100000
open Go.RowKit
theorem eqFields_ins (i k : Ins) (w : World) : (Op.equalIn 10000 38 (.agg #[.int .i64 i.op, .int .i64 i.d, .int .i64 i.a, .int .i64 i.b, .int .i64 i.imm]) (.agg #[.int .i64 k.op, .int .i64 k.d, .int .i64 k.a, .int .i64 k.b, .int .i64 k.imm])).run Tryd.prog w = .ok (decide (i = k)) w := by
  have hS : Tryd.prog.underlying 38 = some (.struct (Tryd.prog.fieldsOf 38)) := by kernel_rfl
  have hp : Tryd.prog.stoodInHeld 38 = false := by kernel_rfl
  rw [show (10000 : Nat) = 9999 + 1 from rfl, run_equalIn_agg w 9999 38 _ _ hS hp]
  simp only [Program.fieldsOf, Tryd.underlying38]
  go_simp
  have e := Ins.eq_iff i k
  by_cases h1 : i.op = k.op <;> by_cases h2 : i.d = k.d <;> by_cases h3 : i.a = k.a <;> by_cases h4 : i.b = k.b <;> by_cases h5 : i.imm = k.imm <;> simp [h1, h2, h3, h4, h5, e]
theorem eql_ins (i k : Ins) (w : World) : (binOp .eql 38 (.agg #[.int .i64 i.op, .int .i64 i.d, .int .i64 i.a, .int .i64 i.b, .int .i64 i.imm]) (.agg #[.int .i64 k.op, .int .i64 k.d, .int .i64 k.a, .int .i64 k.b, .int .i64 k.imm])).run Tryd.prog w = .ok (.bool (decide (i = k))) w := by
  rw [run_eql_struct, eqFields_ins]; rfl
theorem neq_ins (i k : Ins) (w : World) : (binOp .neq 38 (.agg #[.int .i64 i.op, .int .i64 i.d, .int .i64 i.a, .int .i64 i.b, .int .i64 i.imm]) (.agg #[.int .i64 k.op, .int .i64 k.d, .int .i64 k.a, .int .i64 k.b, .int .i64 k.imm])).run Tryd.prog w = .ok (.bool (!decide (i = k))) w := by
  rw [run_neq_struct, eqFields_ins]; rfl

end Go.Proofs.YtfdegdbknponkaaDoor.Words

/- The law's own helpers of chapter 8: num, alive; the document's own Names. -/
namespace Go.Proofs.YtfdegdbknponkaaDoor.Words
set_option maxRecDepth 100000
open Go.RowKit Go.Shelf Go.Lib
set_option linter.unusedVariables false
set_option linter.unusedSimpArgs false

/-- The tables of package unicode, and that of package asm. -/
def TabsA (w : World) : Prop := Tabs w ∧ Shapes w
theorem TabsA.below {w w' : World} (h : TabsA w) (hb : Below w.heap.size w w') : TabsA w' := ⟨h.1.below hb, h.2.below hb⟩
theorem num8_any (k : Int) (w : World) : Calls Tryd.prog 16 #[.int .i64 k] w fun e w' => e = .returned (.int .i64 k) ∧ w = w' := by
  go_enter Tryd.func16, Tryd.ntmps16
  go_wp2
  go_ret
  exact ⟨rfl, rfl⟩
theorem few_len {l : List UInt8} (h : l.length ≤ 8192) : ∀ t, lexZ l = .toks t → (textT t).1 = true → nIns (textT t).2.2 ≤ 8192 := by
  intro t ht _
  have h1 := lex_len ht
  have h2 := textF_len t.length t
  have h3 := nIns_le (textT t).2.2
  have h4 : (textT t).2.2 = (textF t.length t).2.2 := rfl
  rw [h4] at h3 ⊢
  omega
/-- Read of a short text. -/
theorem asmRead_short (l : List UInt8) (w : World) (hl : l.length ≤ 8192) (hT : TabsA w) :
    Calls Tryd.prog 13 #[.string (txt l)] w fun e w' => ReadOut (asmZ l) w.heap.size e w' ∧ Below w.heap.size w w' := by
  have := asmRead_any (txt l) w (by rw [txt_sz]; omega) hT.1 hT.2 (by rw [txt_data]; exact few_len hl)
  rwa [txt_data] at this
def aliveB : List UInt8 := [97, 58, 32, 106, 32, 97, 10, 115, 105, 122, 101, 32, 56, 10, 104, 97, 108, 116]
theorem alive_asm : asmZ aliveB = .ok ⟨[⟨40, 0, 0, 0, 0⟩, ⟨41, 0, 0, 0, 0⟩], 8, []⟩ := by decide +kernel
theorem none_asm : asmZ [] = .bad 0 1 := by decide +kernel
theorem row_lits (w : World) (l : List Value) (t : TypeId) (hl : l.length ≤ 1000000) : Row (w.alloc (.cells l.toArray t)) (w.heap.size + 1) 1 (.slice (some ⟨w.heap.size, 0, none⟩) l.length l.length) l.length l := by
  refine ⟨(Nat.mul_one _).symm, _, _, rfl, Nat.le_refl _, by omega, (fun h => by cases h), fun _ => ⟨w.heap.size, 0, rfl, Nat.lt_succ_self _, fun j u hu => ?_⟩⟩
  have := new_cells w l.toArray t l (by simp) j u hu
  rwa [add_spot] at this
set_option maxHeartbeats 2000000 in
theorem refNames_any (w : World) : Calls Tryd.prog 17 #[] w fun e w' => ∃ A c, e = .returned (.slice A 41 c) ∧ Row w' w'.heap.size 1 (.slice A 41 c) 41 namesL ∧ Below w.heap.size w w' := by
  have hR := Lib.hid (row_lits w namesL 9 (by decide))
  have hB := Lib.hid ((Below.refl w.heap.size w).alloc (Nat.le_refl _) (.cells namesL.toArray 9))
  go_enter Tryd.func17, Tryd.ntmps17
  go_wp2_with fail
  go_ret
  exact ⟨some ⟨w.heap.size, 0, none⟩, 41, rfl, (show Row _ _ _ _ _ _ from hR.out).more (by simp), hB.out⟩

set_option maxHeartbeats 2000000 in
theorem alive8_any (w : World) (hT : TabsA w) : Calls Tryd.prog 12 #[] w fun e w' => e = .returned (.bool true) ∧ Below w.heap.size w w' := by
  have HT := Lib.hid hT
  have c1 := Lib.hid (asmRead_short [] w (by decide) hT)
  rw [none_asm] at c1
  have c2 := Lib.hid (fun y (hy : TabsA y) => asmRead_short aliveB y (by decide) hy)
  rw [alive_asm] at c2
  have ins2 := Lib.hid (fun y => eql_ins ⟨40, 0, 0, 0, 0⟩ ⟨40, 0, 0, 0, 0⟩ y)
  clear hT
  go_enter Tryd.func12, Tryd.ntmps12
  go_wp2_with fail
  refine c1.out.mono ?_
  rintro e w1 ⟨ho, hb1⟩
  change _ = _ at ho
  subst ho
  have HB1 := Lib.hid hb1
  clear hb1
  go_wp2_with fail
  refine (c2.out _ (HT.out.below (HB1.out.alloc HB1.out.size _))).mono ?_
  rintro e w2 ⟨ho, hb2⟩
  obtain ⟨vc, vd, rfl, hc, hd⟩ := ho
  have HB2 := Lib.hid ((HB1.out.alloc HB1.out.size (.cells #[.slice none 0 0, .int .i64 0, .slice none 0 0] 26)).trans (hb2.mono (HB1.out.alloc HB1.out.size _).size))
  obtain ⟨Ac, cc, rfl⟩ := (Row.of_own hc).form
  obtain ⟨Ad, cd, rfl⟩ := (Row.of_own hd).form
  obtain ⟨g, off, rfl, hg, _⟩ := (Row.of_own hc).at_ (by decide)
  have x := (Row.of_own hc).ins (k := 0) (i := ⟨40, 0, 0, 0, 0⟩) rfl
  simp only [Nat.zero_mul, Nat.add_zero] at x
  obtain ⟨x0, x1, x2, x3, x4⟩ := x
  have i2 := ins2.out
  simp only [decide_true] at i2
  have HNM := Lib.hid (fun y => names_any y)
  clear hb2 hc hd
  try dsimp only [List.length_cons, List.length_nil]
  go_wp2_with (first
    | (go_at_call 16; refine (num8_any _ _).mono ?_; rintro e w3 ⟨rfl, rfl⟩)
    | (go_at_call 29; refine (HNM.out _).mono ?_; rintro e w4 ⟨vn, rfl, hn, hb4⟩; obtain ⟨An, cn, rfl⟩ := (Row.of_own hn).form))
  go_ret
  exact ⟨rfl, (HB2.out.alloc HB2.out.size _).trans (hb4.mono (HB2.out.alloc HB2.out.size _).size)⟩
end Go.Proofs.YtfdegdbknponkaaDoor.Words

/- The walk of AsmNames: names stand for operations, each once. -/
namespace Go.Proofs.YtfdegdbknponkaaDoor.Words
set_option maxRecDepth 100000
open Go.RowKit Go.Shelf Go.Lib
set_option linter.unusedVariables false
set_option linter.unusedSimpArgs false

theorem names_row {w : World} {B n c : Nat} {b off : Nat} (h : Row w B 1 (.slice (some ⟨b, off, none⟩) 41 c) 41 namesL) {k : Nat} (hk : k < 41) : w.cell? ⟨b, off + k, none⟩ = some (.string (txt (namesZ.getD k []))) := by
  obtain ⟨b', o', he, hb, hc⟩ := h.at_ (by omega)
  injection he with he
  injection he with he1 he2
  subst he1; subst he2
  refine hc k _ ?_
  have e : namesZ[k]? = some namesZ[k] := List.getElem?_eq_getElem (show k < 41 from hk)
  unfold namesL
  rw [List.getElem?_map, e, List.getD_eq_getElem?_getD, e]; rfl
theorem names_ne : ∀ i k, i < 41 → k < 41 → i ≠ k → namesZ.getD i [] ≠ namesZ.getD k [] := by
  have h : ((List.range 41).all fun i => (List.range 41).all fun k => decide (i = k) || decide (namesZ.getD i [] ≠ namesZ.getD k [])) = true := by decide +kernel
  intro i k hi hk hne
  have h2 := List.all_eq_true.1 (List.all_eq_true.1 h i (List.mem_range.2 hi)) k (List.mem_range.2 hk)
  simpa [hne] using h2
end Go.Proofs.YtfdegdbknponkaaDoor.Words

/- The walk of law 13's SplitBehind. -/
import Derived.Test.YtbibfpopkcekdaaG12
import Derived.Test.YtbibfpopkcekdaaSSplClosed
import Derived.Test.YtbibfpopkcekdaaSSplBehMath
import Derived.Test.YtbibfpopkcekdaaSLinU
import Derived.Test.YtbibfpopkcekdaaG13
import Derived.Test.YtbibfpopkcekdaaG04
namespace Go.Proofs.Ytbibfpopkcekdaa.Words
set_option maxRecDepth 100000
open Go.RowKit
set_option linter.unusedVariables false
set_option linter.unusedSimpArgs false

theorem info_insB : (Try.prog.info? 51).map (fun i => (i.zero, i.size, i.bytes)) = some (some (.agg #[.int .i64 0, .int .i64 0, .int .i64 0, .int .i64 0, .int .i64 0]), 5, 40) := by kernel_rfl
theorem ins_oneB (x : Ins) : ∀ u ∈ ([.int .i64 x.op, .int .i64 x.d, .int .i64 x.a, .int .i64 x.b, .int .i64 x.imm] : List Value), u.oneCell' = true := by
  intro u hu
  simp only [List.mem_cons, List.not_mem_nil, or_false] at hu
  rcases hu with rfl | rfl | rfl | rfl | rfl <;> rfl
theorem code_oneB (l : List Ins) : ∀ u ∈ codeCells l, u.oneCell' = true := by
  intro u hu
  obtain ⟨i, _, h⟩ := List.mem_flatMap.1 hu
  exact ins_oneB i u h
theorem prog_built (A : Option Addr) (n c : Nat) (sz : Int) (D : Option Addr) (m d : Nat) :
    Try.prog.built 25 [(1, .int .i64 sz), (2, .slice D m d), (0, .slice A n c)] = some #[.slice A n c, .int .i64 sz, .slice D m d] := by kernel_rfl
theorem prog_one (A : Option Addr) (n c : Nat) (sz : Int) (D : Option Addr) (m d : Nat) : ∀ u ∈ ([.slice A n c, .int .i64 sz, .slice D m d] : List Value), u.oneCell' = true := by
  intro u hu
  simp only [List.mem_cons, List.not_mem_nil, or_false] at hu
  rcases hu with rfl | rfl | rfl <;> rfl
/-- The program with an instruction more, made in new memory. -/
structure MadeQ (y0 : World) (l : List Ins) (x : Ins) (sz : Int) (D : Option Addr) (m d n : Nat) (bq : Nat) (v : Value) (y : World) : Prop where
  box : Box y bq [v, .int .i64 sz, .slice D m d]
  row : Row y y.heap.size 5 v (n + 1) (codeCells (l ++ [x]))
  kept : Kept y0 y

set_option maxHeartbeats 8000000 in
theorem splitBehind_walk (A : Option Addr) (c : Nat) (D : Option Addr) (d : Nat) (p : Prog) (x : Ins) (pick : Int) (w : World)
    (hf : p.Fits) (hp : ProgV w w.heap.size (.slice A p.code.length c) (.slice D p.data.length d) p) (hx : x.Fits) (hpk : -9223372036854775808 ≤ pick ∧ pick ≤ 9223372036854775807) :
    Calls Try.prog 6 #[.agg #[.slice A p.code.length c, .int .i64 p.size, .slice D p.data.length d], .agg #[.int .i64 x.op, .int .i64 x.d, .int .i64 x.a, .int .i64 x.b, .int .i64 x.imm], .int .i64 pick] w fun e w' => e = .returned (.bool true) ∧ Below w.heap.size w w' := by
  obtain ⟨i0, hi, hq0, hq1, hq2⟩ := info_parts info_insB
  have HI := Lib.hid hi
  have HZ0 := Lib.hid hq0
  have HZ1 := Lib.hid hq1
  have HZ2 := Lib.hid hq2
  clear hi hq0 hq1 hq2
  obtain ⟨u1, u2⟩ := hp.code.cap
  obtain ⟨u3, u4⟩ := hp.data.cap
  obtain ⟨W1, hW1⟩ : ∃ W1, W1 = w.alloc (.cells #[.slice A p.code.length c, .int .i64 p.size, .slice D p.data.length d] 25) := ⟨_, rfl⟩
  obtain ⟨W, hW⟩ : ∃ W, W = W1.alloc (.cells #[.int .i64 x.op, .int .i64 x.d, .int .i64 x.a, .int .i64 x.b, .int .i64 x.imm] 51) := ⟨_, rfl⟩
  have hz1 : W1.heap.size = w.heap.size + 1 := by rw [hW1]; simp
  have HK0 : Hid (Below w.heap.size w W) := by rw [hW, hW1]; exact ((Below.refl w.heap.size w).alloc (Nat.le_refl _) _).alloc (by simp) _
  have XP0 : Hid (Box W w.heap.size [.slice A p.code.length c, .int .i64 p.size, .slice D p.data.length d]) := by rw [hW, hW1]; exact (Box.new w _ _).alloc _
  have XI0 : Hid (Box W (w.heap.size + 1) [.int .i64 x.op, .int .i64 x.d, .int .i64 x.a, .int .i64 x.b, .int .i64 x.imm]) := by rw [hW, ← hz1]; exact Box.new W1 _ _
  have RC0 := Lib.hid ((hp.code.below HK0.out).more HK0.out.size)
  have HPK := Lib.hid hpk
  clear hp hf hx hpk hz1
  go_enter Try.func6, Try.ntmps6
  go_upto_region 1 with (fail)
  change Code.wp _ _ _ _ ((w.alloc (.cells #[.slice A p.code.length c, .int .i64 p.size, .slice D p.data.length d] 25)).alloc (.cells #[.int .i64 x.op, .int .i64 x.d, .int .i64 x.a, .int .i64 x.b, .int .i64 x.imm] 51))
  rw [← hW1, ← hW]
  clear hW1 hW
  go_wp2_with fail
  refine (alive13_any _).mono ?_; rintro e w1 ⟨rfl, hb1⟩
  have HK1 := Lib.hid (HK0.out.trans ((hb1).mono HK0.out.size))
  have XP1 := Lib.hid (XP0.out.below (hb1) XP0.out.lt)
  have XI1 := Lib.hid (XI0.out.below (hb1) XI0.out.lt)
  have RC1 := Lib.hid ((RC0.out.below (hb1)).more (hb1).size)
  clear XP0 XI0 RC0 HK0
  clear hb1
  go_wp2_with fail
  refine (owners_make pick _ HPK.out).mono ?_; rintro e wo ⟨rfl, hb2⟩
  have HK2 := Lib.hid (HK1.out.trans ((hb2).mono HK1.out.size))
  have XP2 := Lib.hid (XP1.out.below (hb2) XP1.out.lt)
  have XI2 := Lib.hid (XI1.out.below (hb2) XI1.out.lt)
  have RC2 := Lib.hid ((RC1.out.below (hb2)).more (hb2).size)
  clear XP1 XI1 RC1 HK1
  clear hb2
  try dsimp only
  obtain ⟨O, hO⟩ : ∃ O, O = ownO pick := ⟨_, rfl⟩
  have HOL : Hid (O.length = 16) := by rw [hO]; exact ownO_len pick
  rw [← hO]
  clear hO
  go_upto_region 3 with (first
    | (refine wpList_store_box rfl 26 (.tmp 8) (.tmp 17) rfl wo.heap.size 0 (oV O) rfl rfl (oV zeroO) (Box.new wo (oV zeroO) 26) (by rw [oV_len, HOL.out]; exact Nat.le_refl _) 16 (by kernel_rfl) ((oV_len O).trans HOL.out) (oV_one _) ?_; intro y2 B2 hg2; rw [splice_whole _ _ (by rw [oV_len, HOL.out]; rfl)] at B2; have HX2 : Hid (Box y2 wo.heap.size (oV O)) := B2; have HS2 := Lib.hid (box_stored hg2); clear B2 hg2))
  have HK3 := Lib.hid (HK2.out.trans ((HS2.out).mono HK2.out.size))
  have XP3 := Lib.hid (XP2.out.below (HS2.out) XP2.out.lt)
  have XI3 := Lib.hid (XI2.out.below (HS2.out) XI2.out.lt)
  have RC3 := Lib.hid ((RC2.out.below (HS2.out)).more (HS2.out).size)
  clear XP2 XI2 RC2 HK2
  have XO3 := HX2
  clear HX2 HS2
  have cp : y2.cell? ⟨w.heap.size, 0, none⟩ = some (.slice A p.code.length c) := XP3.out.cell (k := 0) rfl
  by_cases hlen : p.code.length ≤ 80
  rotate_left
  · have g0 : (80 : Int) < p.code.length := by omega
    go_wp2_with fail
    go_ret
    exact ⟨by first | rfl | trivial, HK3.out⟩

  have g0 : ¬ (80 : Int) < p.code.length := by omega
  go_wp2_with (first
    | (refine wpList_load_box rfl 25 (.tmp 3) rfl w.heap.size 0 rfl [.slice A p.code.length c, .int .i64 p.size, .slice D p.data.length d] [.slice A p.code.length c, .int .i64 p.size, .slice D p.data.length d] XP3.out whole_at _ Try.underlying25 rfl 3 size_prg rfl ?_))
  clear cp
  refine (refRight_any A c p.size D p.data.length d p.code _ RC3.out (by omega) (by omega)).mono ?_; rintro e w3 ⟨rfl, hb3⟩
  have HK4 := Lib.hid (HK3.out.trans ((hb3).mono HK3.out.size))
  have XP4 := Lib.hid (XP3.out.below (hb3) XP3.out.lt)
  have XI4 := Lib.hid (XI3.out.below (hb3) XI3.out.lt)
  have RC4 := Lib.hid ((RC3.out.below (hb3)).more (hb3).size)
  have XO4 := Lib.hid (XO3.out.below (hb3) XO3.out.lt)
  clear XP3 XI3 RC3 XO3 HK3
  clear hb3
  cases hri : rightZ p.code p.size p.data.length
  · try dsimp only
    go_wp2_with fail
    go_ret
    exact ⟨by first | rfl | trivial, HK4.out⟩

  have HRI := Lib.hid hri
  obtain ⟨⟨n0, _⟩, _⟩ := rightZ_parts hri
  clear hri
  try dsimp only
  obtain ⟨ab, ao, rfl, _, _⟩ := RC4.out.at_ (by omega)
  obtain ⟨M, hM⟩ : ∃ M, M = p.code.length - 1 := ⟨_, rfl⟩
  obtain ⟨li, hli⟩ := at_someG (l := p.code) (j := M) (by omega)
  obtain ⟨e0, _, _, _, _⟩ := RC4.out.ins hli
  have HLI : Hid (p.code[p.code.length - 1]? = some li) := by show _ = _; rw [← hM]; exact hli
  have cp : w3.cell? ⟨w.heap.size, 0, none⟩ = some (.slice (some ⟨ab, ao, none⟩) p.code.length c) := XP4.out.cell (k := 0) rfl
  have hM1 : (p.code.length : Int) - 1 = (M : Int) := by omega
  have hM2 : IntKind.i64.wrap (M : Int) = M := IntWalk.i64_in _ ⟨by omega, by omega⟩
  have hM3 : (0 : Int) ≤ M := by omega
  have hM4 : (M : Int) < p.code.length := by omega
  have HM := Lib.hid hM
  clear hM hli
  by_cases hhalt : li.op = 41
  rotate_left
  · have hh : (li.op != 41) = true := by simpa using hhalt
    go_wp2_with fail
    go_ret
    exact ⟨by first | rfl | trivial, HK4.out⟩

  have hh : (li.op != 41) = false := by simpa using hhalt
  have HHT := Lib.hid hhalt
  clear hhalt
  go_wp2_with (first
    | (refine wpList_load_box rfl 25 (.tmp 3) rfl w.heap.size 0 rfl [.slice (some ⟨ab, ao, none⟩) p.code.length c, .int .i64 p.size, .slice D p.data.length d] [.slice (some ⟨ab, ao, none⟩) p.code.length c, .int .i64 p.size, .slice D p.data.length d] XP4.out whole_at _ Try.underlying25 rfl 3 size_prg rfl ?_)
    | (refine wpList_load_box rfl 26 (.tmp 8) rfl wo.heap.size 0 rfl (oV O) (oV O) XO4.out whole_at _ Try.underlying26 rfl 16 (by kernel_rfl) ((oV_len O).trans HOL.out) ?_))
  clear cp e0 hh
  refine (refClosed_any (some ⟨ab, ao, none⟩) c p.size D p.data.length d p.code O _ RC4.out (by omega) (by omega) HOL.out).mono ?_; rintro e w4 ⟨rfl, hb4⟩
  have HK5 := Lib.hid (HK4.out.trans ((hb4).mono HK4.out.size))
  have XP5 := Lib.hid (XP4.out.below (hb4) XP4.out.lt)
  have XI5 := Lib.hid (XI4.out.below (hb4) XI4.out.lt)
  have RC5 := Lib.hid ((RC4.out.below (hb4)).more (hb4).size)
  have XO5 := Lib.hid (XO4.out.below (hb4) XO4.out.lt)
  clear XP4 XI4 RC4 XO4 HK4
  clear hb4
  cases hcl : closedZ p.code p.size p.data.length O
  · try dsimp only
    go_wp2_with fail
    go_ret
    exact ⟨by first | rfl | trivial, HK5.out⟩

  have HCL := Lib.hid hcl
  clear hcl
  try dsimp only
  go_upto_region 5 with (fail)
  clear hM1 hM2 hM3 hM4 g0
  obtain ⟨n, hn⟩ : ∃ n, n = p.code.length := ⟨_, rfl⟩
  have HN := Lib.hid hn
  rw [← hn] at XP5 RC5 hlen u1 n0 ⊢
  clear hn
  refine region_utree_ex (fun (act : Act) (B : (Nat × Value) × (Value × Nat)) => ((((((((((((act.put (some 50) (.pointer (some ⟨w.heap.size, 1, none⟩))).put (some 51) (.int .i64 p.size)).put (some 52) (.pointer (some ⟨w.heap.size, 2, none⟩))).put (some 53) (.slice D p.data.length d)).put (some 54) (.pointer (some ⟨w.heap.size, 0, none⟩))).put (some 55) (.slice (some ⟨ab, ao, none⟩) n c)).put (some 57) (.agg #[.int .i64 x.op, .int .i64 x.d, .int .i64 x.a, .int .i64 x.b, .int .i64 x.imm])).put (some 56) B.2.1).put (some 58) (.slice (some ⟨B.2.2, 0, none⟩) 1 1)).put (some 9) (.pointer (some ⟨B.1.1, 0, none⟩))).put (some 59) B.1.2).put (some 60) (.agg #[B.1.2, .int .i64 p.size, .slice D p.data.length d])))
    (fun B y => MadeQ w4 p.code x p.size D p.data.length d n B.1.1 B.1.2 y ∧ ∃ A2 c2, B.1.2 = .slice A2 (n + 1) c2)
    (LinU.of [(0, true), (1, true), (2, true), (3, true), (4, true), (5, true), (7, true)] (.three 6 8 11 (.two 8 11 (.two 9 11 (LinU.of [(10, true), (11, false), (12, false)] .nil) (LinU.of [(9, false), (10, true), (12, false)] .nil)) (LinU.of [(8, false), (9, false), (10, true), (12, false)] .nil)) (.two 6 11 (.two 9 11 (LinU.of [(10, true), (11, false), (12, false)] .nil) (LinU.of [(9, false), (10, true), (12, false)] .nil)) (LinU.of [(6, false), (9, false), (10, true), (12, false)] .nil)) (.two 6 8 (LinU.of [(8, false), (9, false), (10, true), (12, false)] .nil) (LinU.of [(6, false), (9, false), (10, true), (12, false)] .nil))))
    (by kernel_rfl) (by kernel_rfl) rfl (by kernel_rfl) (Kept w4) ?_ ?_
  · simp only [LinU.of, LinU.look, List.getElem?_toArray, List.getElem?_cons_succ, List.getElem?_cons_zero]
    obtain ⟨q0, hq0⟩ : ∃ q0, q0 = w4.drew := ⟨_, rfl⟩
    have k0 : Kept w4 q0 := by rw [hq0]; exact (Kept.refl w4).drew
    have hsq0 : q0.heap.size ≤ w4.heap.size := by rw [hq0]; exact Nat.le_refl _
    have htq0 : w4.heap.size ≤ q0.heap.size := by rw [hq0]; exact Nat.le_refl _
    rw [← hq0]
    clear hq0
    have ct := fun (y : World) (hy : Kept w4 y) => XP5.out.kept hy
    iterate 6 (refine utree_take (v := ?_) k0 (by rfl) ?_ ?_; rotate_left; (intro y hy; have ct0 := (ct y hy).cell (k := 0) rfl; have ct1 := (ct y hy).cell (k := 1) rfl; have ct2 := (ct y hy).cell (k := 2) rfl; go_simp; try (with_reducible rfl)); (try simp only [Act.put, List.setIfInBounds_toArray, List.set_cons_zero, List.set_cons_succ]))
    refine utree_load k0 (by rfl) 51 (.tmp 4) rfl (w.heap.size + 1) 0 rfl [.int .i64 x.op, .int .i64 x.d, .int .i64 x.a, .int .i64 x.b, .int .i64 x.imm] [.int .i64 x.op, .int .i64 x.d, .int .i64 x.a, .int .i64 x.b, .int .i64 x.imm] (fun y hy => XI5.out.kept hy) whole_at _ Try.underlying51 rfl 5 (by kernel_rfl) rfl ?_
    (try simp only [Act.put, List.setIfInBounds_toArray, List.set_cons_zero, List.set_cons_succ])
    clear ct
    refine utree_three k0 (by rfl) (by rfl) (by rfl) (fun K hK => ?_) (fun K hK => ?_) (fun K hK => ?_)
    · refine wp_append_new _ (.const (.slice none 0 0)) (.tmp 55) 22 rfl q0.heap.size 51 i0 _ 5 40 Try.underlying22 HI.out HZ0.out HZ1.out HZ2.out rfl (by omega) (.slice none 0 0) 0 [] rfl (World.ownsRow_nil _ _ _ _) _ (.slice (some ⟨ab, ao, none⟩) n c) n (codeCells p.code) rfl (RC5.out.below k0) (code_oneB _) (by unfold maxLen; omega) (by omega) (Nat.le_refl _) ?_
      intro v1 q1 hO hg hn1
      have hbl : Below q0.heap.size q0 q1 := Below.grown (Below.refl _ _) hg (Nat.le_refl _) (fun q hq => by cases hq)
      have kq1 : Kept w4 q1 := k0.to hbl
      rw [List.nil_append, Nat.zero_add] at hO
      obtain ⟨A1, c1, rfl⟩ := (Row.of_own hO).form
      have HRq1 : Hid (q1.ownsRow q0.heap.size 51 5 (.slice A1 n c1) n (codeCells p.code)) := hO
      have hsq1 := hbl.size
      have HL1 : Hid (∀ g, (Value.slice A1 n c1).ownBlock = some g → q0.heap.size ≤ g ∧ g < q1.heap.size) := fun g e => hO.lt g e
      clear hO hg hn1 hbl
      refine hK.out _ _ kq1 (fun _ => ?_)
      clear hK K
      (try simp only [Act.put, List.setIfInBounds_toArray, List.set_cons_zero, List.set_cons_succ])
      refine utree_two kq1 (by rfl) (by rfl) (fun K hK => ?_) (fun K hK => ?_)
      · go_simp
        obtain ⟨q2, hq2⟩ : ∃ q2, q2 = q1.alloc (.cells #[.int .i64 x.op, .int .i64 x.d, .int .i64 x.a, .int .i64 x.b, .int .i64 x.imm] 51) := ⟨_, rfl⟩
        have hbl : Below q1.heap.size q1 q2 := by rw [hq2]; exact (Below.refl _ _).alloc (Nat.le_refl _) _
        have kq2 : Kept w4 q2 := kq1.to hbl
        have HXq2 : Hid (Row q2 q2.heap.size 5 (.slice (some ⟨q1.heap.size, 0, none⟩) 1 1) 1 [.int .i64 x.op, .int .i64 x.d, .int .i64 x.a, .int .i64 x.b, .int .i64 x.imm]) := by rw [hq2]; exact (row_new q1 [.int .i64 x.op, .int .i64 x.d, .int .i64 x.a, .int .i64 x.b, .int .i64 x.imm] 5 rfl (by omega) _).more (by simp)
        have hsq2 : q1.heap.size + 1 ≤ q2.heap.size := by rw [hq2]; simp
        have htq2 : q2.heap.size ≤ q1.heap.size + 1 := by rw [hq2]; simp
        have HRq2 := Lib.hid (own_below HRq1.out (hbl))
        refine hK.out _ _ (kq1.alloc _) (fun _ => ?_)
        clear hK K
        change wpU _ _ _ _ _ _ _ (q1.alloc (.cells #[.int .i64 x.op, .int .i64 x.d, .int .i64 x.a, .int .i64 x.b, .int .i64 x.imm] 51))
        rw [← hq2]
        clear hq2 hbl
        (try simp only [Act.put, List.setIfInBounds_toArray, List.set_cons_zero, List.set_cons_succ])
        refine utree_two kq2 (by rfl) (by rfl) (fun K hK => ?_) (fun K hK => ?_)
        · refine wp_append_new _ (.tmp 56) (.tmp 58) 22 rfl q0.heap.size 51 i0 _ 5 40 Try.underlying22 HI.out HZ0.out HZ1.out HZ2.out rfl (by omega) (.slice A1 n c1) n (codeCells p.code) rfl HRq2.out _ (.slice (some ⟨q1.heap.size, 0, none⟩) 1 1) 1 [.int .i64 x.op, .int .i64 x.d, .int .i64 x.a, .int .i64 x.b, .int .i64 x.imm] rfl HXq2.out (ins_oneB x) (by unfold maxLen; omega) (by omega) (by omega) ?_
          intro v2 q3 hO hg hn2
          have kq3 : Kept w4 q3 := Below.grown kq2 hg kq2.size (fun q hq => by have := (HL1.out q hq).1; omega)
          have hsq3 := hg.size
          obtain ⟨A2, c2, rfl⟩ := (Row.of_own hO).form
          have HUq3 := Lib.hid hO
          have HL2 : Hid (∀ g, (Value.slice A2 (n + 1) c2).ownBlock = some g → g < q3.heap.size) := fun g e => (hO.lt g e).2
          clear hO hg hn2
          refine hK.out _ _ kq3 (fun _ => ?_)
          clear hK K
          (try simp only [Act.put, List.setIfInBounds_toArray, List.set_cons_zero, List.set_cons_succ])
          refine utree_take (v := .agg #[.slice A2 (n + 1) c2, .int .i64 p.size, .slice D p.data.length d]) kq3 (by rfl) (fun y hy => exec_built _ _ rfl _ (by simp only [List.map_toArray, List.map_cons, List.map_nil]; exact prog_built A2 (n + 1) c2 p.size D p.data.length d) y) ?_
          (try simp only [Act.put, List.setIfInBounds_toArray, List.set_cons_zero, List.set_cons_succ])
          refine utree_call kq3 (by rfl) (fun K hK => ?_)
          go_simp
          obtain ⟨q4, hq4⟩ : ∃ q4, q4 = q3.alloc (.cells #[.slice none 0 0, .int .i64 0, .slice none 0 0] 25) := ⟨_, rfl⟩
          have hbl : Below q3.heap.size q3 q4 := by rw [hq4]; exact (Below.refl _ _).alloc (Nat.le_refl _) _
          have kq4 : Kept w4 q4 := kq3.to hbl
          have HQq4 : Hid (Box q4 q3.heap.size [.slice none 0 0, .int .i64 0, .slice none 0 0]) := by rw [hq4]; exact Box.new _ _ _
          have hsq4 : q3.heap.size + 1 ≤ q4.heap.size := by rw [hq4]; simp
          have htq4 : q4.heap.size ≤ q3.heap.size + 1 := by rw [hq4]; simp
          have HUq4 := Lib.hid (own_below HUq3.out (hbl))
          have HVQ : Hid ((Value.slice A2 (n + 1) c2).ownBlock ≠ some q3.heap.size) := fun e => by have := HL2.out _ e; omega
          refine hK.out _ _ (kq3.alloc _) (fun _ => ?_)
          clear hK K
          change wpU _ _ _ _ _ _ _ (q3.alloc (.cells #[.slice none 0 0, .int .i64 0, .slice none 0 0] 25))
          rw [← hq4]
          clear hq4 hbl
          (try simp only [Act.put, List.setIfInBounds_toArray, List.set_cons_zero, List.set_cons_succ])
          refine utree_put_cells kq4 (by rfl) 25 (.tmp 9) (.tmp 60) rfl q3.heap.size 0 [.slice A2 (n + 1) c2, .int .i64 p.size, .slice D p.data.length d] rfl rfl [.slice none 0 0, .int .i64 0, .slice none 0 0] HQq4.out (Nat.le_refl _) 3 size_prg rfl (prog_one _ _ _ _ _ _ _) (fun y hy hg => Below.grown kq4 hg kq4.size (fun q hq => by injection hq with hq; omega)) ?_
          intro yz hbz hgz
          rw [splice_whole ([.slice none 0 0, .int .i64 0, .slice none 0 0] : List Value) [.slice A2 (n + 1) c2, .int .i64 p.size, .slice D p.data.length d] rfl] at hbz
          have kz : Kept w4 yz := Below.grown kq4 hgz kq4.size (fun q hq => by injection hq with hq; omega)
          (try simp only [Act.put, List.setIfInBounds_toArray, List.set_cons_zero, List.set_cons_succ])
          have hrz := own_grown HUq4.out hgz (fun g e1 e2 => by injection e2 with e2; subst e2; exact HVQ.out e1)
          rw [show codeCells p.code ++ [.int .i64 x.op, .int .i64 x.d, .int .i64 x.a, .int .i64 x.b, .int .i64 x.imm] = codeCells (p.code ++ [x]) by rw [codeCells_append]; simp [codeCells, insCells]] at hrz
          exact utree_done ⟨((q3.heap.size, .slice A2 (n + 1) c2), (.slice A1 n c1, q1.heap.size)), rfl, ⟨hbz, Row.of_own hrz, kz⟩, ⟨A2, c2, rfl⟩⟩
        · go_simp
          obtain ⟨q5, hq5⟩ : ∃ q5, q5 = q2.alloc (.cells #[.slice none 0 0, .int .i64 0, .slice none 0 0] 25) := ⟨_, rfl⟩
          have hbl : Below q2.heap.size q2 q5 := by rw [hq5]; exact (Below.refl _ _).alloc (Nat.le_refl _) _
          have kq5 : Kept w4 q5 := kq2.to hbl
          have HQq5 : Hid (Box q5 q2.heap.size [.slice none 0 0, .int .i64 0, .slice none 0 0]) := by rw [hq5]; exact Box.new _ _ _
          have hsq5 : q2.heap.size + 1 ≤ q5.heap.size := by rw [hq5]; simp
          have htq5 : q5.heap.size ≤ q2.heap.size + 1 := by rw [hq5]; simp
          have HXq5 := Lib.hid ((HXq2.out.below (hbl)).more (hbl).size)
          have HRq5 := Lib.hid (own_below HRq2.out (hbl))
          refine hK.out _ _ (kq2.alloc _) (fun _ => ?_)
          clear hK K
          change wpU _ _ _ _ _ _ _ (q2.alloc (.cells #[.slice none 0 0, .int .i64 0, .slice none 0 0] 25))
          rw [← hq5]
          clear hq5 hbl
          (try simp only [Act.put, List.setIfInBounds_toArray, List.set_cons_zero, List.set_cons_succ])
          refine utree_call kq5 (by rfl) (fun K hK => ?_)
          refine wp_append_new _ (.tmp 56) (.tmp 58) 22 rfl q0.heap.size 51 i0 _ 5 40 Try.underlying22 HI.out HZ0.out HZ1.out HZ2.out rfl (by omega) (.slice A1 n c1) n (codeCells p.code) rfl HRq5.out _ (.slice (some ⟨q1.heap.size, 0, none⟩) 1 1) 1 [.int .i64 x.op, .int .i64 x.d, .int .i64 x.a, .int .i64 x.b, .int .i64 x.imm] rfl HXq5.out (ins_oneB x) (by unfold maxLen; omega) (by omega) (by omega) ?_
          intro v2 q6 hO hg hn2
          have kq6 : Kept w4 q6 := Below.grown kq5 hg kq5.size (fun q hq => by have := (HL1.out q hq).1; omega)
          have hsq6 := hg.size
          have hnq : (Value.slice A1 n c1).ownBlock ≠ some q2.heap.size := fun e => by have := HL1.out _ e; omega
          have HQq6 := Lib.hid (HQq5.out.keepS (KeepS.of_grown (S := fun j => (Value.slice A1 n c1).ownBlock = some j) hg (fun g e => e)) hnq)
          have HVQ : Hid (v2.ownBlock ≠ some q2.heap.size) := fun e => (hn2 _ e).elim hnq (fun h => by omega)
          obtain ⟨A2, c2, rfl⟩ := (Row.of_own hO).form
          have HUq6 := Lib.hid hO
          have HL2 : Hid (∀ g, (Value.slice A2 (n + 1) c2).ownBlock = some g → g < q6.heap.size) := fun g e => (hO.lt g e).2
          clear hO hg hn2
          refine hK.out _ _ kq6 (fun _ => ?_)
          clear hK K
          (try simp only [Act.put, List.setIfInBounds_toArray, List.set_cons_zero, List.set_cons_succ])
          refine utree_take (v := .agg #[.slice A2 (n + 1) c2, .int .i64 p.size, .slice D p.data.length d]) kq6 (by rfl) (fun y hy => exec_built _ _ rfl _ (by simp only [List.map_toArray, List.map_cons, List.map_nil]; exact prog_built A2 (n + 1) c2 p.size D p.data.length d) y) ?_
          (try simp only [Act.put, List.setIfInBounds_toArray, List.set_cons_zero, List.set_cons_succ])
          refine utree_put_cells kq6 (by rfl) 25 (.tmp 9) (.tmp 60) rfl q2.heap.size 0 [.slice A2 (n + 1) c2, .int .i64 p.size, .slice D p.data.length d] rfl rfl [.slice none 0 0, .int .i64 0, .slice none 0 0] HQq6.out (Nat.le_refl _) 3 size_prg rfl (prog_one _ _ _ _ _ _ _) (fun y hy hg => Below.grown kq6 hg kq6.size (fun q hq => by injection hq with hq; omega)) ?_
          intro yz hbz hgz
          rw [splice_whole ([.slice none 0 0, .int .i64 0, .slice none 0 0] : List Value) [.slice A2 (n + 1) c2, .int .i64 p.size, .slice D p.data.length d] rfl] at hbz
          have kz : Kept w4 yz := Below.grown kq6 hgz kq6.size (fun q hq => by injection hq with hq; omega)
          (try simp only [Act.put, List.setIfInBounds_toArray, List.set_cons_zero, List.set_cons_succ])
          have hrz := own_grown HUq6.out hgz (fun g e1 e2 => by injection e2 with e2; subst e2; exact HVQ.out e1)
          rw [show codeCells p.code ++ [.int .i64 x.op, .int .i64 x.d, .int .i64 x.a, .int .i64 x.b, .int .i64 x.imm] = codeCells (p.code ++ [x]) by rw [codeCells_append]; simp [codeCells, insCells]] at hrz
          exact utree_done ⟨((q2.heap.size, .slice A2 (n + 1) c2), (.slice A1 n c1, q1.heap.size)), rfl, ⟨hbz, Row.of_own hrz, kz⟩, ⟨A2, c2, rfl⟩⟩
      · go_simp
        obtain ⟨q7, hq7⟩ : ∃ q7, q7 = q1.alloc (.cells #[.slice none 0 0, .int .i64 0, .slice none 0 0] 25) := ⟨_, rfl⟩
        have hbl : Below q1.heap.size q1 q7 := by rw [hq7]; exact (Below.refl _ _).alloc (Nat.le_refl _) _
        have kq7 : Kept w4 q7 := kq1.to hbl
        have HQq7 : Hid (Box q7 q1.heap.size [.slice none 0 0, .int .i64 0, .slice none 0 0]) := by rw [hq7]; exact Box.new _ _ _
        have hsq7 : q1.heap.size + 1 ≤ q7.heap.size := by rw [hq7]; simp
        have htq7 : q7.heap.size ≤ q1.heap.size + 1 := by rw [hq7]; simp
        have HRq7 := Lib.hid (own_below HRq1.out (hbl))
        refine hK.out _ _ (kq1.alloc _) (fun _ => ?_)
        clear hK K
        change wpU _ _ _ _ _ _ _ (q1.alloc (.cells #[.slice none 0 0, .int .i64 0, .slice none 0 0] 25))
        rw [← hq7]
        clear hq7 hbl
        (try simp only [Act.put, List.setIfInBounds_toArray, List.set_cons_zero, List.set_cons_succ])
        refine utree_call kq7 (by rfl) (fun K hK => ?_)
        go_simp
        obtain ⟨q8, hq8⟩ : ∃ q8, q8 = q7.alloc (.cells #[.int .i64 x.op, .int .i64 x.d, .int .i64 x.a, .int .i64 x.b, .int .i64 x.imm] 51) := ⟨_, rfl⟩
        have hbl : Below q7.heap.size q7 q8 := by rw [hq8]; exact (Below.refl _ _).alloc (Nat.le_refl _) _
        have kq8 : Kept w4 q8 := kq7.to hbl
        have HXq8 : Hid (Row q8 q8.heap.size 5 (.slice (some ⟨q7.heap.size, 0, none⟩) 1 1) 1 [.int .i64 x.op, .int .i64 x.d, .int .i64 x.a, .int .i64 x.b, .int .i64 x.imm]) := by rw [hq8]; exact (row_new q7 [.int .i64 x.op, .int .i64 x.d, .int .i64 x.a, .int .i64 x.b, .int .i64 x.imm] 5 rfl (by omega) _).more (by simp)
        have hsq8 : q7.heap.size + 1 ≤ q8.heap.size := by rw [hq8]; simp
        have htq8 : q8.heap.size ≤ q7.heap.size + 1 := by rw [hq8]; simp
        have HQq8 := Lib.hid (HQq7.out.below (hbl) HQq7.out.lt)
        have HRq8 := Lib.hid (own_below HRq7.out (hbl))
        refine hK.out _ _ (kq7.alloc _) (fun _ => ?_)
        clear hK K
        change wpU _ _ _ _ _ _ _ (q7.alloc (.cells #[.int .i64 x.op, .int .i64 x.d, .int .i64 x.a, .int .i64 x.b, .int .i64 x.imm] 51))
        rw [← hq8]
        clear hq8 hbl
        (try simp only [Act.put, List.setIfInBounds_toArray, List.set_cons_zero, List.set_cons_succ])
        refine utree_call kq8 (by rfl) (fun K hK => ?_)
        refine wp_append_new _ (.tmp 56) (.tmp 58) 22 rfl q0.heap.size 51 i0 _ 5 40 Try.underlying22 HI.out HZ0.out HZ1.out HZ2.out rfl (by omega) (.slice A1 n c1) n (codeCells p.code) rfl HRq8.out _ (.slice (some ⟨q7.heap.size, 0, none⟩) 1 1) 1 [.int .i64 x.op, .int .i64 x.d, .int .i64 x.a, .int .i64 x.b, .int .i64 x.imm] rfl HXq8.out (ins_oneB x) (by unfold maxLen; omega) (by omega) (by omega) ?_
        intro v2 q9 hO hg hn2
        have kq9 : Kept w4 q9 := Below.grown kq8 hg kq8.size (fun q hq => by have := (HL1.out q hq).1; omega)
        have hsq9 := hg.size
        have hnq : (Value.slice A1 n c1).ownBlock ≠ some q1.heap.size := fun e => by have := HL1.out _ e; omega
        have HQq9 := Lib.hid (HQq8.out.keepS (KeepS.of_grown (S := fun j => (Value.slice A1 n c1).ownBlock = some j) hg (fun g e => e)) hnq)
        have HVQ : Hid (v2.ownBlock ≠ some q1.heap.size) := fun e => (hn2 _ e).elim hnq (fun h => by omega)
        obtain ⟨A2, c2, rfl⟩ := (Row.of_own hO).form
        have HUq9 := Lib.hid hO
        have HL2 : Hid (∀ g, (Value.slice A2 (n + 1) c2).ownBlock = some g → g < q9.heap.size) := fun g e => (hO.lt g e).2
        clear hO hg hn2
        refine hK.out _ _ kq9 (fun _ => ?_)
        clear hK K
        (try simp only [Act.put, List.setIfInBounds_toArray, List.set_cons_zero, List.set_cons_succ])
        refine utree_take (v := .agg #[.slice A2 (n + 1) c2, .int .i64 p.size, .slice D p.data.length d]) kq9 (by rfl) (fun y hy => exec_built _ _ rfl _ (by simp only [List.map_toArray, List.map_cons, List.map_nil]; exact prog_built A2 (n + 1) c2 p.size D p.data.length d) y) ?_
        (try simp only [Act.put, List.setIfInBounds_toArray, List.set_cons_zero, List.set_cons_succ])
        refine utree_put_cells kq9 (by rfl) 25 (.tmp 9) (.tmp 60) rfl q1.heap.size 0 [.slice A2 (n + 1) c2, .int .i64 p.size, .slice D p.data.length d] rfl rfl [.slice none 0 0, .int .i64 0, .slice none 0 0] HQq9.out (Nat.le_refl _) 3 size_prg rfl (prog_one _ _ _ _ _ _ _) (fun y hy hg => Below.grown kq9 hg kq9.size (fun q hq => by injection hq with hq; omega)) ?_
        intro yz hbz hgz
        rw [splice_whole ([.slice none 0 0, .int .i64 0, .slice none 0 0] : List Value) [.slice A2 (n + 1) c2, .int .i64 p.size, .slice D p.data.length d] rfl] at hbz
        have kz : Kept w4 yz := Below.grown kq9 hgz kq9.size (fun q hq => by injection hq with hq; omega)
        (try simp only [Act.put, List.setIfInBounds_toArray, List.set_cons_zero, List.set_cons_succ])
        have hrz := own_grown HUq9.out hgz (fun g e1 e2 => by injection e2 with e2; subst e2; exact HVQ.out e1)
        rw [show codeCells p.code ++ [.int .i64 x.op, .int .i64 x.d, .int .i64 x.a, .int .i64 x.b, .int .i64 x.imm] = codeCells (p.code ++ [x]) by rw [codeCells_append]; simp [codeCells, insCells]] at hrz
        exact utree_done ⟨((q1.heap.size, .slice A2 (n + 1) c2), (.slice A1 n c1, q7.heap.size)), rfl, ⟨hbz, Row.of_own hrz, kz⟩, ⟨A2, c2, rfl⟩⟩
    · go_simp
      obtain ⟨q10, hq10⟩ : ∃ q10, q10 = q0.alloc (.cells #[.int .i64 x.op, .int .i64 x.d, .int .i64 x.a, .int .i64 x.b, .int .i64 x.imm] 51) := ⟨_, rfl⟩
      have hbl : Below q0.heap.size q0 q10 := by rw [hq10]; exact (Below.refl _ _).alloc (Nat.le_refl _) _
      have kq10 : Kept w4 q10 := k0.to hbl
      have HXq10 : Hid (Row q10 q10.heap.size 5 (.slice (some ⟨q0.heap.size, 0, none⟩) 1 1) 1 [.int .i64 x.op, .int .i64 x.d, .int .i64 x.a, .int .i64 x.b, .int .i64 x.imm]) := by rw [hq10]; exact (row_new q0 [.int .i64 x.op, .int .i64 x.d, .int .i64 x.a, .int .i64 x.b, .int .i64 x.imm] 5 rfl (by omega) _).more (by simp)
      have hsq10 : q0.heap.size + 1 ≤ q10.heap.size := by rw [hq10]; simp
      have htq10 : q10.heap.size ≤ q0.heap.size + 1 := by rw [hq10]; simp
      refine hK.out _ _ (k0.alloc _) (fun _ => ?_)
      clear hK K
      change wpU _ _ _ _ _ _ _ (q0.alloc (.cells #[.int .i64 x.op, .int .i64 x.d, .int .i64 x.a, .int .i64 x.b, .int .i64 x.imm] 51))
      rw [← hq10]
      clear hq10 hbl
      (try simp only [Act.put, List.setIfInBounds_toArray, List.set_cons_zero, List.set_cons_succ])
      refine utree_two kq10 (by rfl) (by rfl) (fun K hK => ?_) (fun K hK => ?_)
      · refine wp_append_new _ (.const (.slice none 0 0)) (.tmp 55) 22 rfl q10.heap.size 51 i0 _ 5 40 Try.underlying22 HI.out HZ0.out HZ1.out HZ2.out rfl (by omega) (.slice none 0 0) 0 [] rfl (World.ownsRow_nil _ _ _ _) _ (.slice (some ⟨ab, ao, none⟩) n c) n (codeCells p.code) rfl (RC5.out.below kq10) (code_oneB _) (by unfold maxLen; omega) (by omega) (Nat.le_refl _) ?_
        intro v1 q11 hO hg hn1
        have hbl : Below q10.heap.size q10 q11 := Below.grown (Below.refl _ _) hg (Nat.le_refl _) (fun q hq => by cases hq)
        have kq11 : Kept w4 q11 := kq10.to hbl
        rw [List.nil_append, Nat.zero_add] at hO
        obtain ⟨A1, c1, rfl⟩ := (Row.of_own hO).form
        have HRq11 : Hid (q11.ownsRow q10.heap.size 51 5 (.slice A1 n c1) n (codeCells p.code)) := hO
        have hsq11 := hbl.size
        have HL1 : Hid (∀ g, (Value.slice A1 n c1).ownBlock = some g → q10.heap.size ≤ g ∧ g < q11.heap.size) := fun g e => hO.lt g e
        have HXq11 := Lib.hid ((HXq10.out.below (hbl)).more (hbl).size)
        clear hO hg hn1 hbl
        refine hK.out _ _ kq11 (fun _ => ?_)
        clear hK K
        (try simp only [Act.put, List.setIfInBounds_toArray, List.set_cons_zero, List.set_cons_succ])
        refine utree_two kq11 (by rfl) (by rfl) (fun K hK => ?_) (fun K hK => ?_)
        · refine wp_append_new _ (.tmp 56) (.tmp 58) 22 rfl q10.heap.size 51 i0 _ 5 40 Try.underlying22 HI.out HZ0.out HZ1.out HZ2.out rfl (by omega) (.slice A1 n c1) n (codeCells p.code) rfl HRq11.out _ (.slice (some ⟨q0.heap.size, 0, none⟩) 1 1) 1 [.int .i64 x.op, .int .i64 x.d, .int .i64 x.a, .int .i64 x.b, .int .i64 x.imm] rfl HXq11.out (ins_oneB x) (by unfold maxLen; omega) (by omega) (by omega) ?_
          intro v2 q12 hO hg hn2
          have kq12 : Kept w4 q12 := Below.grown kq11 hg kq11.size (fun q hq => by have := (HL1.out q hq).1; omega)
          have hsq12 := hg.size
          obtain ⟨A2, c2, rfl⟩ := (Row.of_own hO).form
          have HUq12 := Lib.hid hO
          have HL2 : Hid (∀ g, (Value.slice A2 (n + 1) c2).ownBlock = some g → g < q12.heap.size) := fun g e => (hO.lt g e).2
          clear hO hg hn2
          refine hK.out _ _ kq12 (fun _ => ?_)
          clear hK K
          (try simp only [Act.put, List.setIfInBounds_toArray, List.set_cons_zero, List.set_cons_succ])
          refine utree_take (v := .agg #[.slice A2 (n + 1) c2, .int .i64 p.size, .slice D p.data.length d]) kq12 (by rfl) (fun y hy => exec_built _ _ rfl _ (by simp only [List.map_toArray, List.map_cons, List.map_nil]; exact prog_built A2 (n + 1) c2 p.size D p.data.length d) y) ?_
          (try simp only [Act.put, List.setIfInBounds_toArray, List.set_cons_zero, List.set_cons_succ])
          refine utree_call kq12 (by rfl) (fun K hK => ?_)
          go_simp
          obtain ⟨q13, hq13⟩ : ∃ q13, q13 = q12.alloc (.cells #[.slice none 0 0, .int .i64 0, .slice none 0 0] 25) := ⟨_, rfl⟩
          have hbl : Below q12.heap.size q12 q13 := by rw [hq13]; exact (Below.refl _ _).alloc (Nat.le_refl _) _
          have kq13 : Kept w4 q13 := kq12.to hbl
          have HQq13 : Hid (Box q13 q12.heap.size [.slice none 0 0, .int .i64 0, .slice none 0 0]) := by rw [hq13]; exact Box.new _ _ _
          have hsq13 : q12.heap.size + 1 ≤ q13.heap.size := by rw [hq13]; simp
          have htq13 : q13.heap.size ≤ q12.heap.size + 1 := by rw [hq13]; simp
          have HUq13 := Lib.hid (own_below HUq12.out (hbl))
          have HVQ : Hid ((Value.slice A2 (n + 1) c2).ownBlock ≠ some q12.heap.size) := fun e => by have := HL2.out _ e; omega
          refine hK.out _ _ (kq12.alloc _) (fun _ => ?_)
          clear hK K
          change wpU _ _ _ _ _ _ _ (q12.alloc (.cells #[.slice none 0 0, .int .i64 0, .slice none 0 0] 25))
          rw [← hq13]
          clear hq13 hbl
          (try simp only [Act.put, List.setIfInBounds_toArray, List.set_cons_zero, List.set_cons_succ])
          refine utree_put_cells kq13 (by rfl) 25 (.tmp 9) (.tmp 60) rfl q12.heap.size 0 [.slice A2 (n + 1) c2, .int .i64 p.size, .slice D p.data.length d] rfl rfl [.slice none 0 0, .int .i64 0, .slice none 0 0] HQq13.out (Nat.le_refl _) 3 size_prg rfl (prog_one _ _ _ _ _ _ _) (fun y hy hg => Below.grown kq13 hg kq13.size (fun q hq => by injection hq with hq; omega)) ?_
          intro yz hbz hgz
          rw [splice_whole ([.slice none 0 0, .int .i64 0, .slice none 0 0] : List Value) [.slice A2 (n + 1) c2, .int .i64 p.size, .slice D p.data.length d] rfl] at hbz
          have kz : Kept w4 yz := Below.grown kq13 hgz kq13.size (fun q hq => by injection hq with hq; omega)
          (try simp only [Act.put, List.setIfInBounds_toArray, List.set_cons_zero, List.set_cons_succ])
          have hrz := own_grown HUq13.out hgz (fun g e1 e2 => by injection e2 with e2; subst e2; exact HVQ.out e1)
          rw [show codeCells p.code ++ [.int .i64 x.op, .int .i64 x.d, .int .i64 x.a, .int .i64 x.b, .int .i64 x.imm] = codeCells (p.code ++ [x]) by rw [codeCells_append]; simp [codeCells, insCells]] at hrz
          exact utree_done ⟨((q12.heap.size, .slice A2 (n + 1) c2), (.slice A1 n c1, q0.heap.size)), rfl, ⟨hbz, Row.of_own hrz, kz⟩, ⟨A2, c2, rfl⟩⟩
        · go_simp
          obtain ⟨q14, hq14⟩ : ∃ q14, q14 = q11.alloc (.cells #[.slice none 0 0, .int .i64 0, .slice none 0 0] 25) := ⟨_, rfl⟩
          have hbl : Below q11.heap.size q11 q14 := by rw [hq14]; exact (Below.refl _ _).alloc (Nat.le_refl _) _
          have kq14 : Kept w4 q14 := kq11.to hbl
          have HQq14 : Hid (Box q14 q11.heap.size [.slice none 0 0, .int .i64 0, .slice none 0 0]) := by rw [hq14]; exact Box.new _ _ _
          have hsq14 : q11.heap.size + 1 ≤ q14.heap.size := by rw [hq14]; simp
          have htq14 : q14.heap.size ≤ q11.heap.size + 1 := by rw [hq14]; simp
          have HXq14 := Lib.hid ((HXq11.out.below (hbl)).more (hbl).size)
          have HRq14 := Lib.hid (own_below HRq11.out (hbl))
          refine hK.out _ _ (kq11.alloc _) (fun _ => ?_)
          clear hK K
          change wpU _ _ _ _ _ _ _ (q11.alloc (.cells #[.slice none 0 0, .int .i64 0, .slice none 0 0] 25))
          rw [← hq14]
          clear hq14 hbl
          (try simp only [Act.put, List.setIfInBounds_toArray, List.set_cons_zero, List.set_cons_succ])
          refine utree_call kq14 (by rfl) (fun K hK => ?_)
          refine wp_append_new _ (.tmp 56) (.tmp 58) 22 rfl q10.heap.size 51 i0 _ 5 40 Try.underlying22 HI.out HZ0.out HZ1.out HZ2.out rfl (by omega) (.slice A1 n c1) n (codeCells p.code) rfl HRq14.out _ (.slice (some ⟨q0.heap.size, 0, none⟩) 1 1) 1 [.int .i64 x.op, .int .i64 x.d, .int .i64 x.a, .int .i64 x.b, .int .i64 x.imm] rfl HXq14.out (ins_oneB x) (by unfold maxLen; omega) (by omega) (by omega) ?_
          intro v2 q15 hO hg hn2
          have kq15 : Kept w4 q15 := Below.grown kq14 hg kq14.size (fun q hq => by have := (HL1.out q hq).1; omega)
          have hsq15 := hg.size
          have hnq : (Value.slice A1 n c1).ownBlock ≠ some q11.heap.size := fun e => by have := HL1.out _ e; omega
          have HQq15 := Lib.hid (HQq14.out.keepS (KeepS.of_grown (S := fun j => (Value.slice A1 n c1).ownBlock = some j) hg (fun g e => e)) hnq)
          have HVQ : Hid (v2.ownBlock ≠ some q11.heap.size) := fun e => (hn2 _ e).elim hnq (fun h => by omega)
          obtain ⟨A2, c2, rfl⟩ := (Row.of_own hO).form
          have HUq15 := Lib.hid hO
          have HL2 : Hid (∀ g, (Value.slice A2 (n + 1) c2).ownBlock = some g → g < q15.heap.size) := fun g e => (hO.lt g e).2
          clear hO hg hn2
          refine hK.out _ _ kq15 (fun _ => ?_)
          clear hK K
          (try simp only [Act.put, List.setIfInBounds_toArray, List.set_cons_zero, List.set_cons_succ])
          refine utree_take (v := .agg #[.slice A2 (n + 1) c2, .int .i64 p.size, .slice D p.data.length d]) kq15 (by rfl) (fun y hy => exec_built _ _ rfl _ (by simp only [List.map_toArray, List.map_cons, List.map_nil]; exact prog_built A2 (n + 1) c2 p.size D p.data.length d) y) ?_
          (try simp only [Act.put, List.setIfInBounds_toArray, List.set_cons_zero, List.set_cons_succ])
          refine utree_put_cells kq15 (by rfl) 25 (.tmp 9) (.tmp 60) rfl q11.heap.size 0 [.slice A2 (n + 1) c2, .int .i64 p.size, .slice D p.data.length d] rfl rfl [.slice none 0 0, .int .i64 0, .slice none 0 0] HQq15.out (Nat.le_refl _) 3 size_prg rfl (prog_one _ _ _ _ _ _ _) (fun y hy hg => Below.grown kq15 hg kq15.size (fun q hq => by injection hq with hq; omega)) ?_
          intro yz hbz hgz
          rw [splice_whole ([.slice none 0 0, .int .i64 0, .slice none 0 0] : List Value) [.slice A2 (n + 1) c2, .int .i64 p.size, .slice D p.data.length d] rfl] at hbz
          have kz : Kept w4 yz := Below.grown kq15 hgz kq15.size (fun q hq => by injection hq with hq; omega)
          (try simp only [Act.put, List.setIfInBounds_toArray, List.set_cons_zero, List.set_cons_succ])
          have hrz := own_grown HUq15.out hgz (fun g e1 e2 => by injection e2 with e2; subst e2; exact HVQ.out e1)
          rw [show codeCells p.code ++ [.int .i64 x.op, .int .i64 x.d, .int .i64 x.a, .int .i64 x.b, .int .i64 x.imm] = codeCells (p.code ++ [x]) by rw [codeCells_append]; simp [codeCells, insCells]] at hrz
          exact utree_done ⟨((q11.heap.size, .slice A2 (n + 1) c2), (.slice A1 n c1, q0.heap.size)), rfl, ⟨hbz, Row.of_own hrz, kz⟩, ⟨A2, c2, rfl⟩⟩
      · go_simp
        obtain ⟨q16, hq16⟩ : ∃ q16, q16 = q10.alloc (.cells #[.slice none 0 0, .int .i64 0, .slice none 0 0] 25) := ⟨_, rfl⟩
        have hbl : Below q10.heap.size q10 q16 := by rw [hq16]; exact (Below.refl _ _).alloc (Nat.le_refl _) _
        have kq16 : Kept w4 q16 := kq10.to hbl
        have HQq16 : Hid (Box q16 q10.heap.size [.slice none 0 0, .int .i64 0, .slice none 0 0]) := by rw [hq16]; exact Box.new _ _ _
        have hsq16 : q10.heap.size + 1 ≤ q16.heap.size := by rw [hq16]; simp
        have htq16 : q16.heap.size ≤ q10.heap.size + 1 := by rw [hq16]; simp
        have HXq16 := Lib.hid ((HXq10.out.below (hbl)).more (hbl).size)
        refine hK.out _ _ (kq10.alloc _) (fun _ => ?_)
        clear hK K
        change wpU _ _ _ _ _ _ _ (q10.alloc (.cells #[.slice none 0 0, .int .i64 0, .slice none 0 0] 25))
        rw [← hq16]
        clear hq16 hbl
        (try simp only [Act.put, List.setIfInBounds_toArray, List.set_cons_zero, List.set_cons_succ])
        refine utree_call kq16 (by rfl) (fun K hK => ?_)
        refine wp_append_new _ (.const (.slice none 0 0)) (.tmp 55) 22 rfl q16.heap.size 51 i0 _ 5 40 Try.underlying22 HI.out HZ0.out HZ1.out HZ2.out rfl (by omega) (.slice none 0 0) 0 [] rfl (World.ownsRow_nil _ _ _ _) _ (.slice (some ⟨ab, ao, none⟩) n c) n (codeCells p.code) rfl (RC5.out.below kq16) (code_oneB _) (by unfold maxLen; omega) (by omega) (Nat.le_refl _) ?_
        intro v1 q17 hO hg hn1
        have hbl : Below q16.heap.size q16 q17 := Below.grown (Below.refl _ _) hg (Nat.le_refl _) (fun q hq => by cases hq)
        have kq17 : Kept w4 q17 := kq16.to hbl
        rw [List.nil_append, Nat.zero_add] at hO
        obtain ⟨A1, c1, rfl⟩ := (Row.of_own hO).form
        have HRq17 : Hid (q17.ownsRow q16.heap.size 51 5 (.slice A1 n c1) n (codeCells p.code)) := hO
        have hsq17 := hbl.size
        have HL1 : Hid (∀ g, (Value.slice A1 n c1).ownBlock = some g → q16.heap.size ≤ g ∧ g < q17.heap.size) := fun g e => hO.lt g e
        have HXq17 := Lib.hid ((HXq16.out.below (hbl)).more (hbl).size)
        have HQq17 := Lib.hid (HQq16.out.below (hbl) HQq16.out.lt)
        clear hO hg hn1 hbl
        refine hK.out _ _ kq17 (fun _ => ?_)
        clear hK K
        (try simp only [Act.put, List.setIfInBounds_toArray, List.set_cons_zero, List.set_cons_succ])
        refine utree_call kq17 (by rfl) (fun K hK => ?_)
        refine wp_append_new _ (.tmp 56) (.tmp 58) 22 rfl q16.heap.size 51 i0 _ 5 40 Try.underlying22 HI.out HZ0.out HZ1.out HZ2.out rfl (by omega) (.slice A1 n c1) n (codeCells p.code) rfl HRq17.out _ (.slice (some ⟨q0.heap.size, 0, none⟩) 1 1) 1 [.int .i64 x.op, .int .i64 x.d, .int .i64 x.a, .int .i64 x.b, .int .i64 x.imm] rfl HXq17.out (ins_oneB x) (by unfold maxLen; omega) (by omega) (by omega) ?_
        intro v2 q18 hO hg hn2
        have kq18 : Kept w4 q18 := Below.grown kq17 hg kq17.size (fun q hq => by have := (HL1.out q hq).1; omega)
        have hsq18 := hg.size
        have hnq : (Value.slice A1 n c1).ownBlock ≠ some q10.heap.size := fun e => by have := HL1.out _ e; omega
        have HQq18 := Lib.hid (HQq17.out.keepS (KeepS.of_grown (S := fun j => (Value.slice A1 n c1).ownBlock = some j) hg (fun g e => e)) hnq)
        have HVQ : Hid (v2.ownBlock ≠ some q10.heap.size) := fun e => (hn2 _ e).elim hnq (fun h => by omega)
        obtain ⟨A2, c2, rfl⟩ := (Row.of_own hO).form
        have HUq18 := Lib.hid hO
        have HL2 : Hid (∀ g, (Value.slice A2 (n + 1) c2).ownBlock = some g → g < q18.heap.size) := fun g e => (hO.lt g e).2
        clear hO hg hn2
        refine hK.out _ _ kq18 (fun _ => ?_)
        clear hK K
        (try simp only [Act.put, List.setIfInBounds_toArray, List.set_cons_zero, List.set_cons_succ])
        refine utree_take (v := .agg #[.slice A2 (n + 1) c2, .int .i64 p.size, .slice D p.data.length d]) kq18 (by rfl) (fun y hy => exec_built _ _ rfl _ (by simp only [List.map_toArray, List.map_cons, List.map_nil]; exact prog_built A2 (n + 1) c2 p.size D p.data.length d) y) ?_
        (try simp only [Act.put, List.setIfInBounds_toArray, List.set_cons_zero, List.set_cons_succ])
        refine utree_put_cells kq18 (by rfl) 25 (.tmp 9) (.tmp 60) rfl q10.heap.size 0 [.slice A2 (n + 1) c2, .int .i64 p.size, .slice D p.data.length d] rfl rfl [.slice none 0 0, .int .i64 0, .slice none 0 0] HQq18.out (Nat.le_refl _) 3 size_prg rfl (prog_one _ _ _ _ _ _ _) (fun y hy hg => Below.grown kq18 hg kq18.size (fun q hq => by injection hq with hq; omega)) ?_
        intro yz hbz hgz
        rw [splice_whole ([.slice none 0 0, .int .i64 0, .slice none 0 0] : List Value) [.slice A2 (n + 1) c2, .int .i64 p.size, .slice D p.data.length d] rfl] at hbz
        have kz : Kept w4 yz := Below.grown kq18 hgz kq18.size (fun q hq => by injection hq with hq; omega)
        (try simp only [Act.put, List.setIfInBounds_toArray, List.set_cons_zero, List.set_cons_succ])
        have hrz := own_grown HUq18.out hgz (fun g e1 e2 => by injection e2 with e2; subst e2; exact HVQ.out e1)
        rw [show codeCells p.code ++ [.int .i64 x.op, .int .i64 x.d, .int .i64 x.a, .int .i64 x.b, .int .i64 x.imm] = codeCells (p.code ++ [x]) by rw [codeCells_append]; simp [codeCells, insCells]] at hrz
        exact utree_done ⟨((q10.heap.size, .slice A2 (n + 1) c2), (.slice A1 n c1, q0.heap.size)), rfl, ⟨hbz, Row.of_own hrz, kz⟩, ⟨A2, c2, rfl⟩⟩
    · go_simp
      obtain ⟨q19, hq19⟩ : ∃ q19, q19 = q0.alloc (.cells #[.slice none 0 0, .int .i64 0, .slice none 0 0] 25) := ⟨_, rfl⟩
      have hbl : Below q0.heap.size q0 q19 := by rw [hq19]; exact (Below.refl _ _).alloc (Nat.le_refl _) _
      have kq19 : Kept w4 q19 := k0.to hbl
      have HQq19 : Hid (Box q19 q0.heap.size [.slice none 0 0, .int .i64 0, .slice none 0 0]) := by rw [hq19]; exact Box.new _ _ _
      have hsq19 : q0.heap.size + 1 ≤ q19.heap.size := by rw [hq19]; simp
      have htq19 : q19.heap.size ≤ q0.heap.size + 1 := by rw [hq19]; simp
      refine hK.out _ _ (k0.alloc _) (fun _ => ?_)
      clear hK K
      change wpU _ _ _ _ _ _ _ (q0.alloc (.cells #[.slice none 0 0, .int .i64 0, .slice none 0 0] 25))
      rw [← hq19]
      clear hq19 hbl
      (try simp only [Act.put, List.setIfInBounds_toArray, List.set_cons_zero, List.set_cons_succ])
      refine utree_two kq19 (by rfl) (by rfl) (fun K hK => ?_) (fun K hK => ?_)
      · refine wp_append_new _ (.const (.slice none 0 0)) (.tmp 55) 22 rfl q19.heap.size 51 i0 _ 5 40 Try.underlying22 HI.out HZ0.out HZ1.out HZ2.out rfl (by omega) (.slice none 0 0) 0 [] rfl (World.ownsRow_nil _ _ _ _) _ (.slice (some ⟨ab, ao, none⟩) n c) n (codeCells p.code) rfl (RC5.out.below kq19) (code_oneB _) (by unfold maxLen; omega) (by omega) (Nat.le_refl _) ?_
        intro v1 q20 hO hg hn1
        have hbl : Below q19.heap.size q19 q20 := Below.grown (Below.refl _ _) hg (Nat.le_refl _) (fun q hq => by cases hq)
        have kq20 : Kept w4 q20 := kq19.to hbl
        rw [List.nil_append, Nat.zero_add] at hO
        obtain ⟨A1, c1, rfl⟩ := (Row.of_own hO).form
        have HRq20 : Hid (q20.ownsRow q19.heap.size 51 5 (.slice A1 n c1) n (codeCells p.code)) := hO
        have hsq20 := hbl.size
        have HL1 : Hid (∀ g, (Value.slice A1 n c1).ownBlock = some g → q19.heap.size ≤ g ∧ g < q20.heap.size) := fun g e => hO.lt g e
        have HQq20 := Lib.hid (HQq19.out.below (hbl) HQq19.out.lt)
        clear hO hg hn1 hbl
        refine hK.out _ _ kq20 (fun _ => ?_)
        clear hK K
        (try simp only [Act.put, List.setIfInBounds_toArray, List.set_cons_zero, List.set_cons_succ])
        refine utree_call kq20 (by rfl) (fun K hK => ?_)
        go_simp
        obtain ⟨q21, hq21⟩ : ∃ q21, q21 = q20.alloc (.cells #[.int .i64 x.op, .int .i64 x.d, .int .i64 x.a, .int .i64 x.b, .int .i64 x.imm] 51) := ⟨_, rfl⟩
        have hbl : Below q20.heap.size q20 q21 := by rw [hq21]; exact (Below.refl _ _).alloc (Nat.le_refl _) _
        have kq21 : Kept w4 q21 := kq20.to hbl
        have HXq21 : Hid (Row q21 q21.heap.size 5 (.slice (some ⟨q20.heap.size, 0, none⟩) 1 1) 1 [.int .i64 x.op, .int .i64 x.d, .int .i64 x.a, .int .i64 x.b, .int .i64 x.imm]) := by rw [hq21]; exact (row_new q20 [.int .i64 x.op, .int .i64 x.d, .int .i64 x.a, .int .i64 x.b, .int .i64 x.imm] 5 rfl (by omega) _).more (by simp)
        have hsq21 : q20.heap.size + 1 ≤ q21.heap.size := by rw [hq21]; simp
        have htq21 : q21.heap.size ≤ q20.heap.size + 1 := by rw [hq21]; simp
        have HQq21 := Lib.hid (HQq20.out.below (hbl) HQq20.out.lt)
        have HRq21 := Lib.hid (own_below HRq20.out (hbl))
        refine hK.out _ _ (kq20.alloc _) (fun _ => ?_)
        clear hK K
        change wpU _ _ _ _ _ _ _ (q20.alloc (.cells #[.int .i64 x.op, .int .i64 x.d, .int .i64 x.a, .int .i64 x.b, .int .i64 x.imm] 51))
        rw [← hq21]
        clear hq21 hbl
        (try simp only [Act.put, List.setIfInBounds_toArray, List.set_cons_zero, List.set_cons_succ])
        refine utree_call kq21 (by rfl) (fun K hK => ?_)
        refine wp_append_new _ (.tmp 56) (.tmp 58) 22 rfl q19.heap.size 51 i0 _ 5 40 Try.underlying22 HI.out HZ0.out HZ1.out HZ2.out rfl (by omega) (.slice A1 n c1) n (codeCells p.code) rfl HRq21.out _ (.slice (some ⟨q20.heap.size, 0, none⟩) 1 1) 1 [.int .i64 x.op, .int .i64 x.d, .int .i64 x.a, .int .i64 x.b, .int .i64 x.imm] rfl HXq21.out (ins_oneB x) (by unfold maxLen; omega) (by omega) (by omega) ?_
        intro v2 q22 hO hg hn2
        have kq22 : Kept w4 q22 := Below.grown kq21 hg kq21.size (fun q hq => by have := (HL1.out q hq).1; omega)
        have hsq22 := hg.size
        have hnq : (Value.slice A1 n c1).ownBlock ≠ some q0.heap.size := fun e => by have := HL1.out _ e; omega
        have HQq22 := Lib.hid (HQq21.out.keepS (KeepS.of_grown (S := fun j => (Value.slice A1 n c1).ownBlock = some j) hg (fun g e => e)) hnq)
        have HVQ : Hid (v2.ownBlock ≠ some q0.heap.size) := fun e => (hn2 _ e).elim hnq (fun h => by omega)
        obtain ⟨A2, c2, rfl⟩ := (Row.of_own hO).form
        have HUq22 := Lib.hid hO
        have HL2 : Hid (∀ g, (Value.slice A2 (n + 1) c2).ownBlock = some g → g < q22.heap.size) := fun g e => (hO.lt g e).2
        clear hO hg hn2
        refine hK.out _ _ kq22 (fun _ => ?_)
        clear hK K
        (try simp only [Act.put, List.setIfInBounds_toArray, List.set_cons_zero, List.set_cons_succ])
        refine utree_take (v := .agg #[.slice A2 (n + 1) c2, .int .i64 p.size, .slice D p.data.length d]) kq22 (by rfl) (fun y hy => exec_built _ _ rfl _ (by simp only [List.map_toArray, List.map_cons, List.map_nil]; exact prog_built A2 (n + 1) c2 p.size D p.data.length d) y) ?_
        (try simp only [Act.put, List.setIfInBounds_toArray, List.set_cons_zero, List.set_cons_succ])
        refine utree_put_cells kq22 (by rfl) 25 (.tmp 9) (.tmp 60) rfl q0.heap.size 0 [.slice A2 (n + 1) c2, .int .i64 p.size, .slice D p.data.length d] rfl rfl [.slice none 0 0, .int .i64 0, .slice none 0 0] HQq22.out (Nat.le_refl _) 3 size_prg rfl (prog_one _ _ _ _ _ _ _) (fun y hy hg => Below.grown kq22 hg kq22.size (fun q hq => by injection hq with hq; omega)) ?_
        intro yz hbz hgz
        rw [splice_whole ([.slice none 0 0, .int .i64 0, .slice none 0 0] : List Value) [.slice A2 (n + 1) c2, .int .i64 p.size, .slice D p.data.length d] rfl] at hbz
        have kz : Kept w4 yz := Below.grown kq22 hgz kq22.size (fun q hq => by injection hq with hq; omega)
        (try simp only [Act.put, List.setIfInBounds_toArray, List.set_cons_zero, List.set_cons_succ])
        have hrz := own_grown HUq22.out hgz (fun g e1 e2 => by injection e2 with e2; subst e2; exact HVQ.out e1)
        rw [show codeCells p.code ++ [.int .i64 x.op, .int .i64 x.d, .int .i64 x.a, .int .i64 x.b, .int .i64 x.imm] = codeCells (p.code ++ [x]) by rw [codeCells_append]; simp [codeCells, insCells]] at hrz
        exact utree_done ⟨((q0.heap.size, .slice A2 (n + 1) c2), (.slice A1 n c1, q20.heap.size)), rfl, ⟨hbz, Row.of_own hrz, kz⟩, ⟨A2, c2, rfl⟩⟩
      · go_simp
        obtain ⟨q23, hq23⟩ : ∃ q23, q23 = q19.alloc (.cells #[.int .i64 x.op, .int .i64 x.d, .int .i64 x.a, .int .i64 x.b, .int .i64 x.imm] 51) := ⟨_, rfl⟩
        have hbl : Below q19.heap.size q19 q23 := by rw [hq23]; exact (Below.refl _ _).alloc (Nat.le_refl _) _
        have kq23 : Kept w4 q23 := kq19.to hbl
        have HXq23 : Hid (Row q23 q23.heap.size 5 (.slice (some ⟨q19.heap.size, 0, none⟩) 1 1) 1 [.int .i64 x.op, .int .i64 x.d, .int .i64 x.a, .int .i64 x.b, .int .i64 x.imm]) := by rw [hq23]; exact (row_new q19 [.int .i64 x.op, .int .i64 x.d, .int .i64 x.a, .int .i64 x.b, .int .i64 x.imm] 5 rfl (by omega) _).more (by simp)
        have hsq23 : q19.heap.size + 1 ≤ q23.heap.size := by rw [hq23]; simp
        have htq23 : q23.heap.size ≤ q19.heap.size + 1 := by rw [hq23]; simp
        have HQq23 := Lib.hid (HQq19.out.below (hbl) HQq19.out.lt)
        refine hK.out _ _ (kq19.alloc _) (fun _ => ?_)
        clear hK K
        change wpU _ _ _ _ _ _ _ (q19.alloc (.cells #[.int .i64 x.op, .int .i64 x.d, .int .i64 x.a, .int .i64 x.b, .int .i64 x.imm] 51))
        rw [← hq23]
        clear hq23 hbl
        (try simp only [Act.put, List.setIfInBounds_toArray, List.set_cons_zero, List.set_cons_succ])
        refine utree_call kq23 (by rfl) (fun K hK => ?_)
        refine wp_append_new _ (.const (.slice none 0 0)) (.tmp 55) 22 rfl q23.heap.size 51 i0 _ 5 40 Try.underlying22 HI.out HZ0.out HZ1.out HZ2.out rfl (by omega) (.slice none 0 0) 0 [] rfl (World.ownsRow_nil _ _ _ _) _ (.slice (some ⟨ab, ao, none⟩) n c) n (codeCells p.code) rfl (RC5.out.below kq23) (code_oneB _) (by unfold maxLen; omega) (by omega) (Nat.le_refl _) ?_
        intro v1 q24 hO hg hn1
        have hbl : Below q23.heap.size q23 q24 := Below.grown (Below.refl _ _) hg (Nat.le_refl _) (fun q hq => by cases hq)
        have kq24 : Kept w4 q24 := kq23.to hbl
        rw [List.nil_append, Nat.zero_add] at hO
        obtain ⟨A1, c1, rfl⟩ := (Row.of_own hO).form
        have HRq24 : Hid (q24.ownsRow q23.heap.size 51 5 (.slice A1 n c1) n (codeCells p.code)) := hO
        have hsq24 := hbl.size
        have HL1 : Hid (∀ g, (Value.slice A1 n c1).ownBlock = some g → q23.heap.size ≤ g ∧ g < q24.heap.size) := fun g e => hO.lt g e
        have HXq24 := Lib.hid ((HXq23.out.below (hbl)).more (hbl).size)
        have HQq24 := Lib.hid (HQq23.out.below (hbl) HQq23.out.lt)
        clear hO hg hn1 hbl
        refine hK.out _ _ kq24 (fun _ => ?_)
        clear hK K
        (try simp only [Act.put, List.setIfInBounds_toArray, List.set_cons_zero, List.set_cons_succ])
        refine utree_call kq24 (by rfl) (fun K hK => ?_)
        refine wp_append_new _ (.tmp 56) (.tmp 58) 22 rfl q23.heap.size 51 i0 _ 5 40 Try.underlying22 HI.out HZ0.out HZ1.out HZ2.out rfl (by omega) (.slice A1 n c1) n (codeCells p.code) rfl HRq24.out _ (.slice (some ⟨q19.heap.size, 0, none⟩) 1 1) 1 [.int .i64 x.op, .int .i64 x.d, .int .i64 x.a, .int .i64 x.b, .int .i64 x.imm] rfl HXq24.out (ins_oneB x) (by unfold maxLen; omega) (by omega) (by omega) ?_
        intro v2 q25 hO hg hn2
        have kq25 : Kept w4 q25 := Below.grown kq24 hg kq24.size (fun q hq => by have := (HL1.out q hq).1; omega)
        have hsq25 := hg.size
        have hnq : (Value.slice A1 n c1).ownBlock ≠ some q0.heap.size := fun e => by have := HL1.out _ e; omega
        have HQq25 := Lib.hid (HQq24.out.keepS (KeepS.of_grown (S := fun j => (Value.slice A1 n c1).ownBlock = some j) hg (fun g e => e)) hnq)
        have HVQ : Hid (v2.ownBlock ≠ some q0.heap.size) := fun e => (hn2 _ e).elim hnq (fun h => by omega)
        obtain ⟨A2, c2, rfl⟩ := (Row.of_own hO).form
        have HUq25 := Lib.hid hO
        have HL2 : Hid (∀ g, (Value.slice A2 (n + 1) c2).ownBlock = some g → g < q25.heap.size) := fun g e => (hO.lt g e).2
        clear hO hg hn2
        refine hK.out _ _ kq25 (fun _ => ?_)
        clear hK K
        (try simp only [Act.put, List.setIfInBounds_toArray, List.set_cons_zero, List.set_cons_succ])
        refine utree_take (v := .agg #[.slice A2 (n + 1) c2, .int .i64 p.size, .slice D p.data.length d]) kq25 (by rfl) (fun y hy => exec_built _ _ rfl _ (by simp only [List.map_toArray, List.map_cons, List.map_nil]; exact prog_built A2 (n + 1) c2 p.size D p.data.length d) y) ?_
        (try simp only [Act.put, List.setIfInBounds_toArray, List.set_cons_zero, List.set_cons_succ])
        refine utree_put_cells kq25 (by rfl) 25 (.tmp 9) (.tmp 60) rfl q0.heap.size 0 [.slice A2 (n + 1) c2, .int .i64 p.size, .slice D p.data.length d] rfl rfl [.slice none 0 0, .int .i64 0, .slice none 0 0] HQq25.out (Nat.le_refl _) 3 size_prg rfl (prog_one _ _ _ _ _ _ _) (fun y hy hg => Below.grown kq25 hg kq25.size (fun q hq => by injection hq with hq; omega)) ?_
        intro yz hbz hgz
        rw [splice_whole ([.slice none 0 0, .int .i64 0, .slice none 0 0] : List Value) [.slice A2 (n + 1) c2, .int .i64 p.size, .slice D p.data.length d] rfl] at hbz
        have kz : Kept w4 yz := Below.grown kq25 hgz kq25.size (fun q hq => by injection hq with hq; omega)
        (try simp only [Act.put, List.setIfInBounds_toArray, List.set_cons_zero, List.set_cons_succ])
        have hrz := own_grown HUq25.out hgz (fun g e1 e2 => by injection e2 with e2; subst e2; exact HVQ.out e1)
        rw [show codeCells p.code ++ [.int .i64 x.op, .int .i64 x.d, .int .i64 x.a, .int .i64 x.b, .int .i64 x.imm] = codeCells (p.code ++ [x]) by rw [codeCells_append]; simp [codeCells, insCells]] at hrz
        exact utree_done ⟨((q0.heap.size, .slice A2 (n + 1) c2), (.slice A1 n c1, q19.heap.size)), rfl, ⟨hbz, Row.of_own hrz, kz⟩, ⟨A2, c2, rfl⟩⟩
  rintro ⟨⟨bq, v5⟩, ⟨v6, b6⟩⟩ y5 ⟨⟨hB5, hR5, hk5⟩, A2, c2, hv5⟩
  dsimp only at hB5 hR5 hk5 hv5
  subst hv5
  have HK6 := Lib.hid (HK5.out.trans ((hk5).mono HK5.out.size))
  have XP6 := Lib.hid (XP5.out.below (hk5) XP5.out.lt)
  have XI6 := Lib.hid (XI5.out.below (hk5) XI5.out.lt)
  have RC6 := Lib.hid ((RC5.out.below (hk5)).more (hk5).size)
  have XO6 := Lib.hid (XO5.out.below (hk5) XO5.out.lt)
  clear XP5 XI5 RC5 XO5 HK5
  obtain ⟨Q, hQ⟩ : ∃ Q, Q = p.code ++ [x] := ⟨_, rfl⟩
  obtain ⟨NQ, hNQ⟩ : ∃ NQ, NQ = n + 1 := ⟨_, rfl⟩
  have HQL : Hid (Q.length = NQ) := by show _ = _; rw [hQ, hNQ, List.length_append, ← HN.out]; rfl
  rw [← hNQ] at hB5 hR5
  rw [← hQ] at hR5
  have HQE := Lib.hid hQ
  have HNQ := Lib.hid hNQ
  have HQX : Hid (Q[n]? = some x) := by show _ = _; rw [hQ, HN.out]; simp
  have XQ6 := Lib.hid hB5
  have RQ6 := Lib.hid hR5
  clear hB5 hR5 hk5 hQ
  simp only [Act.put, List.setIfInBounds_toArray, List.set_cons_zero, List.set_cons_succ]
  try rw [← hNQ]
  clear hNQ
  obtain ⟨b2, o2, rfl, _, _⟩ := RQ6.out.at_ (by have := HNQ.out; omega)
  have cp : y5.cell? ⟨w.heap.size, 0, none⟩ = some (.slice (some ⟨ab, ao, none⟩) n c) := XP6.out.cell (k := 0) rfl
  have hnq2 : (NQ : Int) ≤ 100 := by have := HNQ.out; omega
  go_wp2_with (first
    | (refine wpList_load_box rfl 25 (.tmp 9) rfl bq 0 rfl [.slice (some ⟨b2, o2, none⟩) NQ c2, .int .i64 p.size, .slice D p.data.length d] [.slice (some ⟨b2, o2, none⟩) NQ c2, .int .i64 p.size, .slice D p.data.length d] XQ6.out whole_at _ Try.underlying25 rfl 3 size_prg rfl ?_))
  have hT := refTarget_any b2 o2 c2 n p.size (.slice D p.data.length d) Q x y5 (by rw [HQL.out]; exact RQ6.out) HQX.out (by rw [HQL.out]; have := HNQ.out; omega)
  rw [HQL.out] at hT
  refine hT.mono ?_; rintro e w6 ⟨rfl, hb6⟩
  obtain ⟨TZ, hTZ⟩ : ∃ TZ, TZ = targetZ NQ n x := ⟨_, rfl⟩
  rw [← hTZ]
  have HTZ := Lib.hid hTZ
  clear hT hTZ cp
  have HK7 := Lib.hid (HK6.out.trans ((hb6).mono HK6.out.size))
  have XP7 := Lib.hid (XP6.out.below (hb6) XP6.out.lt)
  have XI7 := Lib.hid (XI6.out.below (hb6) XI6.out.lt)
  have RC7 := Lib.hid ((RC6.out.below (hb6)).more (hb6).size)
  have XO7 := Lib.hid (XO6.out.below (hb6) XO6.out.lt)
  have XQ7 := Lib.hid (XQ6.out.below (hb6) XQ6.out.lt)
  have RQ7 := Lib.hid ((RQ6.out.below (hb6)).more (hb6).size)
  clear XP6 XI6 RC6 XO6 XQ6 RQ6 HK6
  clear hb6
  have cp : w6.cell? ⟨w.heap.size, 0, none⟩ = some (.slice (some ⟨ab, ao, none⟩) n c) := XP7.out.cell (k := 0) rfl
  have HPW : Hid (w.heap.size < w6.heap.size) := XP7.out.lt
  try dsimp only
  by_cases ht0 : 0 ≤ TZ
  · by_cases ht1 : TZ < n
    · go_wp2_with fail
      go_ret
      exact ⟨by first | rfl | trivial, HK7.out⟩
    · go_upto_region 9 with (fail)
      have HNT : Hid (¬ (0 ≤ targetZ NQ n x ∧ targetZ NQ n x < n)) := by show ¬ _; rw [← HTZ.out]; rintro ⟨r1, r2⟩; omega
      clear cp ht0 ht1
      go_wp2_with (first
        | (refine wpList_load_box rfl 25 (.tmp 3) rfl w.heap.size 0 rfl [.slice (some ⟨ab, ao, none⟩) n c, .int .i64 p.size, .slice D p.data.length d] [.slice (some ⟨ab, ao, none⟩) n c, .int .i64 p.size, .slice D p.data.length d] XP7.out whole_at _ Try.underlying25 rfl 3 size_prg rfl ?_)
        | (refine wpList_load_box rfl 26 (.tmp 8) rfl wo.heap.size 0 rfl (oV O) (oV O) XO7.out whole_at _ Try.underlying26 rfl 16 (by kernel_rfl) ((oV_len O).trans HOL.out) ?_))
      have hW := with_any (some ⟨ab, ao, none⟩) c p.size D p.data.length d p.code O w6 (by rw [← HN.out]; exact RC7.out) (by omega) (by omega) HOL.out
      rw [← HN.out] at hW
      refine hW.mono ?_; rintro e w9 ⟨v9, rfl, hv9, hb9⟩
      rw [(with_yes HCL.out).2.1, (with_yes HCL.out).2.2]
      obtain ⟨L1, hL1⟩ : ∃ L1, L1 = withZ p.code p.size p.data.length O := ⟨_, rfl⟩
      rw [← hL1] at hv9
      have HL1 := Lib.hid hL1
      obtain ⟨K1, hK1⟩ : ∃ K1, K1 = L1.length := ⟨_, rfl⟩
      obtain ⟨A9, c9, rfl⟩ := hv9.blks.form
      rw [← hK1] at hv9 ⊢
      have HK1 := Lib.hid hK1
      have HB69 : Hid (w6.heap.size ≤ w9.heap.size) := hb9.size
      have HV9 : Hid (BlksV w9 w9.heap.size (.slice A9 K1 c9) L1) := hv9.blks
      clear hW hL1 hK1 hv9
      have HK8 := Lib.hid (HK7.out.trans ((hb9).mono HK7.out.size))
      have XP8 := Lib.hid (XP7.out.below (hb9) XP7.out.lt)
      have XI8 := Lib.hid (XI7.out.below (hb9) XI7.out.lt)
      have RC8 := Lib.hid ((RC7.out.below (hb9)).more (hb9).size)
      have XO8 := Lib.hid (XO7.out.below (hb9) XO7.out.lt)
      have XQ8 := Lib.hid (XQ7.out.below (hb9) XQ7.out.lt)
      have RQ8 := Lib.hid ((RQ7.out.below (hb9)).more (hb9).size)
      clear XP7 XI7 RC7 XO7 XQ7 RQ7 HK7
      clear hb9
      try dsimp only
      go_upto_region 10 with (first
        | (refine wpList_store_box rfl 29 (.tmp 11) (.tmp 79) rfl w9.heap.size 0 (splV (.slice A9 K1 c9) O) rfl rfl zeroSpl (Box.new w9 zeroSpl 29) (by rw [splV_len HOL.out]; decide) 17 size_spl (splV_len HOL.out) (splV_one rfl) ?_; intro y9 B9 hg9; rw [splice_whole zeroSpl (splV (.slice A9 K1 c9) O) (by rw [splV_len HOL.out]; rfl)] at B9; have HX9 : Hid (Box y9 w9.heap.size (splV (.slice A9 K1 c9) O)) := B9; have HS9 := Lib.hid (box_stored hg9); clear B9 hg9))
      have HK9 := Lib.hid (HK8.out.trans ((HS9.out).mono HK8.out.size))
      have XP9 := Lib.hid (XP8.out.below (HS9.out) XP8.out.lt)
      have XI9 := Lib.hid (XI8.out.below (HS9.out) XI8.out.lt)
      have RC9 := Lib.hid ((RC8.out.below (HS9.out)).more (HS9.out).size)
      have XO9 := Lib.hid (XO8.out.below (HS9.out) XO8.out.lt)
      have XQ9 := Lib.hid (XQ8.out.below (HS9.out) XQ8.out.lt)
      have RQ9 := Lib.hid ((RQ8.out.below (HS9.out)).more (HS9.out).size)
      clear XP8 XI8 RC8 XO8 XQ8 RQ8 HK8
      have XA9 := HX9
      have HV9y : Hid (BlksV y9 w9.heap.size (.slice A9 K1 c9) L1) := HV9.out.below HS9.out
      have HBY : Hid (w9.heap.size ≤ y9.heap.size) := HS9.out.size
      have HA0 : Hid (w9.heap.size < y9.heap.size) := XA9.out.lt
      clear HX9 HS9 HV9
      go_wp2_with (first
        | (refine wpList_load_box rfl 25 (.tmp 9) rfl bq 0 rfl [.slice (some ⟨b2, o2, none⟩) NQ c2, .int .i64 p.size, .slice D p.data.length d] [.slice (some ⟨b2, o2, none⟩) NQ c2, .int .i64 p.size, .slice D p.data.length d] XQ9.out whole_at _ Try.underlying25 rfl 3 size_prg rfl ?_)
        | (refine wpList_load_box rfl 26 (.tmp 8) rfl wo.heap.size 0 rfl (oV O) (oV O) XO9.out whole_at _ Try.underlying26 rfl 16 (by kernel_rfl) ((oV_len O).trans HOL.out) ?_))
      have hW := with_any (some ⟨b2, o2, none⟩) c2 p.size D p.data.length d Q O y9 (by rw [HQL.out]; exact RQ9.out) (by omega) (by omega) HOL.out
      rw [HQL.out] at hW
      refine hW.mono ?_; rintro e w10 ⟨v10, rfl, hv10, hb10⟩
      obtain ⟨L2, hL2⟩ : ∃ L2, L2 = withZ Q p.size p.data.length O := ⟨_, rfl⟩
      obtain ⟨O2, hO2⟩ : ∃ O2, O2 = ownW Q p.size p.data.length O := ⟨_, rfl⟩
      obtain ⟨E2, hE2⟩ : ∃ E2, E2 = errW Q p.size p.data.length O := ⟨_, rfl⟩
      have N2 : Hid (O2.length = 16) := by rw [hO2]; exact ownW_len HOL.out
      rw [← hL2] at hv10
      rw [← hO2, ← hE2]
      obtain ⟨K2, hK2⟩ : ∃ K2, K2 = L2.length := ⟨_, rfl⟩
      obtain ⟨A10, c10, rfl⟩ := hv10.blks.form
      rw [← hK2] at hv10 ⊢
      have HL2 := Lib.hid hL2
      have HO2 := Lib.hid hO2
      have HE2 := Lib.hid hE2
      have HK2 := Lib.hid hK2
      have HV10 : Hid (BlksV w10 w10.heap.size (.slice A10 K2 c10) L2) := hv10.blks
      have HBZ : Hid (Below y9.heap.size y9 w10) := hb10
      clear hW hL2 hO2 hE2 hK2 hv10
      have HK10 := Lib.hid (HK9.out.trans ((hb10).mono HK9.out.size))
      have XP10 := Lib.hid (XP9.out.below (hb10) XP9.out.lt)
      have XI10 := Lib.hid (XI9.out.below (hb10) XI9.out.lt)
      have RC10 := Lib.hid ((RC9.out.below (hb10)).more (hb10).size)
      have XO10 := Lib.hid (XO9.out.below (hb10) XO9.out.lt)
      have XQ10 := Lib.hid (XQ9.out.below (hb10) XQ9.out.lt)
      have RQ10 := Lib.hid ((RQ9.out.below (hb10)).more (hb10).size)
      have XA10 := Lib.hid (XA9.out.below (hb10) XA9.out.lt)
      clear XP9 XI9 RC9 XO9 XQ9 RQ9 XA9 HK9
      clear hb10
      try dsimp only
      go_upto_region 11 with (first
        | (refine wpList_store_box rfl 29 (.tmp 13) (.tmp 85) rfl w10.heap.size 0 (splV (.slice A10 K2 c10) O2) rfl rfl zeroSpl (Box.new w10 zeroSpl 29) (by rw [splV_len N2.out]; decide) 17 size_spl (splV_len N2.out) (splV_one rfl) ?_; intro y10 B10 hg10; rw [splice_whole zeroSpl (splV (.slice A10 K2 c10) O2) (by rw [splV_len N2.out]; rfl)] at B10; have HX10 : Hid (Box y10 w10.heap.size (splV (.slice A10 K2 c10) O2)) := B10; have HS10 := Lib.hid (box_stored hg10); clear B10 hg10))
      have HK11 := Lib.hid (HK10.out.trans ((HS10.out).mono HK10.out.size))
      have XP11 := Lib.hid (XP10.out.below (HS10.out) XP10.out.lt)
      have XI11 := Lib.hid (XI10.out.below (HS10.out) XI10.out.lt)
      have RC11 := Lib.hid ((RC10.out.below (HS10.out)).more (HS10.out).size)
      have XO11 := Lib.hid (XO10.out.below (HS10.out) XO10.out.lt)
      have XQ11 := Lib.hid (XQ10.out.below (HS10.out) XQ10.out.lt)
      have RQ11 := Lib.hid ((RQ10.out.below (HS10.out)).more (HS10.out).size)
      have XA11 := Lib.hid (XA10.out.below (HS10.out) XA10.out.lt)
      clear XP10 XI10 RC10 XO10 XQ10 RQ10 XA10 HK10
      have XB11 := HX10
      have HV10y : Hid (BlksV y10 w10.heap.size (.slice A10 K2 c10) L2) := HV10.out.below HS10.out
      have HZ10 : Hid (w9.heap.size < w10.heap.size) := by have := XA11.out.lt; have := HBZ.out.size; have h1 := HBY.out; have h2 := HA0.out; show _ < _; omega
      have HV9z : Hid (BlksV y10 w9.heap.size (.slice A9 K1 c9) L1) := HV9y.out.below (((HBZ.out.mono HBY.out)).trans (HS10.out.mono (by have := HZ10.out; omega)))
      clear HX10 HS10 HV10 HV9y HBZ
      go_wp2_with fail
      refine (num13_any 0 _).mono ?_; rintro e _ ⟨rfl, rfl⟩
      try dsimp only
      go_wp2_with fail
      refine (num13_any E2 _).mono ?_; rintro e _ ⟨rfl, rfl⟩
      cases hcq : closedZ Q p.size p.data.length O
      · obtain ⟨q1, q2, q3⟩ := with_no hcq
        have hE : E2 = 1 := HE2.out.trans q3
        subst hE
        have HCQ := Lib.hid hcq
        clear hcq q1 q2 q3
        try dsimp only
        go_wp2_with (first
          | (refine wpList_load_box rfl 25 (.tmp 9) rfl bq 0 rfl [.slice (some ⟨b2, o2, none⟩) NQ c2, .int .i64 p.size, .slice D p.data.length d] [.slice (some ⟨b2, o2, none⟩) NQ c2, .int .i64 p.size, .slice D p.data.length d] XQ11.out whole_at _ Try.underlying25 rfl 3 size_prg rfl ?_)
          | (refine wpList_load_box rfl 26 (.tmp 8) rfl wo.heap.size 0 rfl (oV O) (oV O) XO11.out whole_at _ Try.underlying26 rfl 16 (by kernel_rfl) ((oV_len O).trans HOL.out) ?_))
        have hW := refClosed_any (some ⟨b2, o2, none⟩) c2 p.size D p.data.length d Q O y10 (by rw [HQL.out]; exact RQ11.out) (by omega) (by omega) HOL.out
        rw [HQL.out, HCQ.out] at hW
        refine hW.mono ?_; rintro e w11 ⟨rfl, hb11⟩
        have HE := Lib.hid (HK11.out.trans (hb11.mono HK11.out.size))
        clear hW hb11
        try dsimp only
        go_wp2_with fail
        go_ret
        exact ⟨by first | rfl | trivial, HE.out⟩
      obtain ⟨q1, q2, q3⟩ := with_yes hcq
      have hE : E2 = 0 := HE2.out.trans q3
      have hO2 : O2 = O := HO2.out.trans q2
      subst hE hO2
      have hbw := behind_with (x := x) HCL.out (by rw [← HQE.out]; exact hcq) ⟨li, HLI.out, HHT.out⟩ (by rw [← HN.out]; exact hlen) (by rw [← HN.out, ← HNQ.out]; exact HNT.out)
      rw [← HQE.out, ← HL2.out, ← HL1.out, ← HK2.out, ← HK1.out] at hbw
      obtain ⟨hk2, htk⟩ := hbw
      have HTK := Lib.hid htk
      have h1l : K1 ≤ 2000 := by
        rw [HK1.out, HL1.out, (with_yes HCL.out).1, List.length_map]
        exact Nat.le_trans (cut_len _ _ _) (cut_some HCL.out).2
      have HKK := Lib.hid hk2
      have hne : ((K2 : Int) != (K1 : Int) + 1) = false := by simp; omega
      have g1 : (K1 : Int) ≤ 2000 := by omega
      have g2 : (0 : Int) ≤ K1 := by omega
      have hc10 : (K2 : Int) ≤ c10 := by
        obtain ⟨rs, r1, _⟩ := HV10y.out
        rw [← HK2.out] at r1
        have := r1.cap; omega
      have g3 : (K1 : Int) ≤ c10 := by omega
      obtain ⟨b10, o10, rfl⟩ := HV10y.out.spot (by rw [← HK2.out]; omega)
      clear hcq q1 q2 q3 htk hk2
      have s1 : y10.cell? ⟨w9.heap.size, 0, none⟩ = some (.slice A9 K1 c9) := XA11.out.cell (k := 0) rfl
      have s2 : y10.cell? ⟨w10.heap.size, 0, none⟩ = some (.slice (some ⟨b10, o10, none⟩) K2 c10) := XB11.out.cell (k := 0) rfl
      have s3 : y10.frozen? ⟨w10.heap.size, 0, none⟩ = false := XB11.out.frozen 0
      try dsimp only
      go_upto_region 18 with (fail)
      obtain ⟨z, hz⟩ : ∃ z, z = y10.setCell ⟨w10.heap.size, 0, none⟩ (.slice (some ⟨b10, o10, none⟩) K1 c10) := ⟨_, rfl⟩
      have hks : KeepS (fun j => j = w10.heap.size) y10 z := by rw [hz]; exact (KeepS.refl (fun j => j = w10.heap.size) y10).setCell rfl _ _
      have HXA : Hid (Box z w9.heap.size (splV (.slice A9 K1 c9) O2)) := XA11.out.keepS hks (fun e => by have := HZ10.out; omega)
      have HXB : Hid (Box z w10.heap.size (splV (.slice (some ⟨b10, o10, none⟩) K1 c10) O2)) := by
        rw [hz]
        have := XB11.out.setCell 0 (.slice (some ⟨b10, o10, none⟩) K1 c10)
        exact this
      have hbz : Below w10.heap.size y10 z := hks.below (Nat.le_of_lt XB11.out.lt) (fun j e => by omega)
      have HVA : Hid (BlksV z z.heap.size (.slice A9 K1 c9) L1) := (HV9z.out.below (hbz.mono (by have := HZ10.out; omega))).more (by have := hbz.size; have := XB11.out.lt; have := hks.size; have := HZ10.out; omega)
      have HVB : Hid (BlksV z z.heap.size (.slice (some ⟨b10, o10, none⟩) K1 c10) L1) := by
        have h1 := (HV10y.out.below hbz).front (k := K1) HK2.out.symm (by have := HKK.out; omega) (by have := HKK.out; omega)
        rw [HTK.out] at h1
        exact h1.more (by have := XB11.out.lt; have := hks.size; omega)
      have HKZ : Hid (Below w.heap.size w z) := HK11.out.trans (hbz.mono (by have := HB69.out; have := HZ10.out; have := HPW.out; omega))
      rw [← hz]
      clear hz hks hbz s1 s2 s3
      go_wp2_with (first
        | (refine wpList_load_box rfl 29 (.tmp 11) rfl w9.heap.size 0 rfl (splV (.slice A9 K1 c9) O2) (splV (.slice A9 K1 c9) O2) HXA.out whole_at _ Try.underlying29 rfl 17 size_spl (splV_len N2.out) ?_)
        | (refine wpList_load_box rfl 29 (.tmp 13) rfl w10.heap.size 0 rfl (splV (.slice (some ⟨b10, o10, none⟩) K1 c10) O2) (splV (.slice (some ⟨b10, o10, none⟩) K1 c10) O2) HXB.out whole_at _ Try.underlying29 rfl 17 size_spl (splV_len N2.out) ?_))
      have hS := refSameSpl_any A9 (some ⟨b10, o10, none⟩) c9 c10 L1 L1 O2 O2 z N2.out N2.out (by rw [← HK1.out]; exact HVA.out) (by rw [← HK1.out]; exact HVB.out)
      rw [← HK1.out, decide_eq_true ⟨rfl, rfl⟩] at hS
      refine hS.mono ?_; rintro e w12 ⟨rfl, hb12⟩
      have HE := Lib.hid (HKZ.out.trans (hb12.mono HKZ.out.size))
      clear hS hb12
      try dsimp only
      go_wp2_with fail
      go_ret
      exact ⟨by first | rfl | trivial, HE.out⟩
  · go_upto_region 9 with (fail)
    have HNT : Hid (¬ (0 ≤ targetZ NQ n x ∧ targetZ NQ n x < n)) := by show ¬ _; rw [← HTZ.out]; rintro ⟨r1, r2⟩; omega
    clear cp ht0
    go_wp2_with (first
      | (refine wpList_load_box rfl 25 (.tmp 3) rfl w.heap.size 0 rfl [.slice (some ⟨ab, ao, none⟩) n c, .int .i64 p.size, .slice D p.data.length d] [.slice (some ⟨ab, ao, none⟩) n c, .int .i64 p.size, .slice D p.data.length d] XP7.out whole_at _ Try.underlying25 rfl 3 size_prg rfl ?_)
      | (refine wpList_load_box rfl 26 (.tmp 8) rfl wo.heap.size 0 rfl (oV O) (oV O) XO7.out whole_at _ Try.underlying26 rfl 16 (by kernel_rfl) ((oV_len O).trans HOL.out) ?_))
    have hW := with_any (some ⟨ab, ao, none⟩) c p.size D p.data.length d p.code O w6 (by rw [← HN.out]; exact RC7.out) (by omega) (by omega) HOL.out
    rw [← HN.out] at hW
    refine hW.mono ?_; rintro e w9 ⟨v9, rfl, hv9, hb9⟩
    rw [(with_yes HCL.out).2.1, (with_yes HCL.out).2.2]
    obtain ⟨L1, hL1⟩ : ∃ L1, L1 = withZ p.code p.size p.data.length O := ⟨_, rfl⟩
    rw [← hL1] at hv9
    have HL1 := Lib.hid hL1
    obtain ⟨K1, hK1⟩ : ∃ K1, K1 = L1.length := ⟨_, rfl⟩
    obtain ⟨A9, c9, rfl⟩ := hv9.blks.form
    rw [← hK1] at hv9 ⊢
    have HK1 := Lib.hid hK1
    have HB69 : Hid (w6.heap.size ≤ w9.heap.size) := hb9.size
    have HV9 : Hid (BlksV w9 w9.heap.size (.slice A9 K1 c9) L1) := hv9.blks
    clear hW hL1 hK1 hv9
    have HK8 := Lib.hid (HK7.out.trans ((hb9).mono HK7.out.size))
    have XP8 := Lib.hid (XP7.out.below (hb9) XP7.out.lt)
    have XI8 := Lib.hid (XI7.out.below (hb9) XI7.out.lt)
    have RC8 := Lib.hid ((RC7.out.below (hb9)).more (hb9).size)
    have XO8 := Lib.hid (XO7.out.below (hb9) XO7.out.lt)
    have XQ8 := Lib.hid (XQ7.out.below (hb9) XQ7.out.lt)
    have RQ8 := Lib.hid ((RQ7.out.below (hb9)).more (hb9).size)
    clear XP7 XI7 RC7 XO7 XQ7 RQ7 HK7
    clear hb9
    try dsimp only
    go_upto_region 10 with (first
      | (refine wpList_store_box rfl 29 (.tmp 11) (.tmp 79) rfl w9.heap.size 0 (splV (.slice A9 K1 c9) O) rfl rfl zeroSpl (Box.new w9 zeroSpl 29) (by rw [splV_len HOL.out]; decide) 17 size_spl (splV_len HOL.out) (splV_one rfl) ?_; intro y9 B9 hg9; rw [splice_whole zeroSpl (splV (.slice A9 K1 c9) O) (by rw [splV_len HOL.out]; rfl)] at B9; have HX9 : Hid (Box y9 w9.heap.size (splV (.slice A9 K1 c9) O)) := B9; have HS9 := Lib.hid (box_stored hg9); clear B9 hg9))
    have HK9 := Lib.hid (HK8.out.trans ((HS9.out).mono HK8.out.size))
    have XP9 := Lib.hid (XP8.out.below (HS9.out) XP8.out.lt)
    have XI9 := Lib.hid (XI8.out.below (HS9.out) XI8.out.lt)
    have RC9 := Lib.hid ((RC8.out.below (HS9.out)).more (HS9.out).size)
    have XO9 := Lib.hid (XO8.out.below (HS9.out) XO8.out.lt)
    have XQ9 := Lib.hid (XQ8.out.below (HS9.out) XQ8.out.lt)
    have RQ9 := Lib.hid ((RQ8.out.below (HS9.out)).more (HS9.out).size)
    clear XP8 XI8 RC8 XO8 XQ8 RQ8 HK8
    have XA9 := HX9
    have HV9y : Hid (BlksV y9 w9.heap.size (.slice A9 K1 c9) L1) := HV9.out.below HS9.out
    have HBY : Hid (w9.heap.size ≤ y9.heap.size) := HS9.out.size
    have HA0 : Hid (w9.heap.size < y9.heap.size) := XA9.out.lt
    clear HX9 HS9 HV9
    go_wp2_with (first
      | (refine wpList_load_box rfl 25 (.tmp 9) rfl bq 0 rfl [.slice (some ⟨b2, o2, none⟩) NQ c2, .int .i64 p.size, .slice D p.data.length d] [.slice (some ⟨b2, o2, none⟩) NQ c2, .int .i64 p.size, .slice D p.data.length d] XQ9.out whole_at _ Try.underlying25 rfl 3 size_prg rfl ?_)
      | (refine wpList_load_box rfl 26 (.tmp 8) rfl wo.heap.size 0 rfl (oV O) (oV O) XO9.out whole_at _ Try.underlying26 rfl 16 (by kernel_rfl) ((oV_len O).trans HOL.out) ?_))
    have hW := with_any (some ⟨b2, o2, none⟩) c2 p.size D p.data.length d Q O y9 (by rw [HQL.out]; exact RQ9.out) (by omega) (by omega) HOL.out
    rw [HQL.out] at hW
    refine hW.mono ?_; rintro e w10 ⟨v10, rfl, hv10, hb10⟩
    obtain ⟨L2, hL2⟩ : ∃ L2, L2 = withZ Q p.size p.data.length O := ⟨_, rfl⟩
    obtain ⟨O2, hO2⟩ : ∃ O2, O2 = ownW Q p.size p.data.length O := ⟨_, rfl⟩
    obtain ⟨E2, hE2⟩ : ∃ E2, E2 = errW Q p.size p.data.length O := ⟨_, rfl⟩
    have N2 : Hid (O2.length = 16) := by rw [hO2]; exact ownW_len HOL.out
    rw [← hL2] at hv10
    rw [← hO2, ← hE2]
    obtain ⟨K2, hK2⟩ : ∃ K2, K2 = L2.length := ⟨_, rfl⟩
    obtain ⟨A10, c10, rfl⟩ := hv10.blks.form
    rw [← hK2] at hv10 ⊢
    have HL2 := Lib.hid hL2
    have HO2 := Lib.hid hO2
    have HE2 := Lib.hid hE2
    have HK2 := Lib.hid hK2
    have HV10 : Hid (BlksV w10 w10.heap.size (.slice A10 K2 c10) L2) := hv10.blks
    have HBZ : Hid (Below y9.heap.size y9 w10) := hb10
    clear hW hL2 hO2 hE2 hK2 hv10
    have HK10 := Lib.hid (HK9.out.trans ((hb10).mono HK9.out.size))
    have XP10 := Lib.hid (XP9.out.below (hb10) XP9.out.lt)
    have XI10 := Lib.hid (XI9.out.below (hb10) XI9.out.lt)
    have RC10 := Lib.hid ((RC9.out.below (hb10)).more (hb10).size)
    have XO10 := Lib.hid (XO9.out.below (hb10) XO9.out.lt)
    have XQ10 := Lib.hid (XQ9.out.below (hb10) XQ9.out.lt)
    have RQ10 := Lib.hid ((RQ9.out.below (hb10)).more (hb10).size)
    have XA10 := Lib.hid (XA9.out.below (hb10) XA9.out.lt)
    clear XP9 XI9 RC9 XO9 XQ9 RQ9 XA9 HK9
    clear hb10
    try dsimp only
    go_upto_region 11 with (first
      | (refine wpList_store_box rfl 29 (.tmp 13) (.tmp 85) rfl w10.heap.size 0 (splV (.slice A10 K2 c10) O2) rfl rfl zeroSpl (Box.new w10 zeroSpl 29) (by rw [splV_len N2.out]; decide) 17 size_spl (splV_len N2.out) (splV_one rfl) ?_; intro y10 B10 hg10; rw [splice_whole zeroSpl (splV (.slice A10 K2 c10) O2) (by rw [splV_len N2.out]; rfl)] at B10; have HX10 : Hid (Box y10 w10.heap.size (splV (.slice A10 K2 c10) O2)) := B10; have HS10 := Lib.hid (box_stored hg10); clear B10 hg10))
    have HK11 := Lib.hid (HK10.out.trans ((HS10.out).mono HK10.out.size))
    have XP11 := Lib.hid (XP10.out.below (HS10.out) XP10.out.lt)
    have XI11 := Lib.hid (XI10.out.below (HS10.out) XI10.out.lt)
    have RC11 := Lib.hid ((RC10.out.below (HS10.out)).more (HS10.out).size)
    have XO11 := Lib.hid (XO10.out.below (HS10.out) XO10.out.lt)
    have XQ11 := Lib.hid (XQ10.out.below (HS10.out) XQ10.out.lt)
    have RQ11 := Lib.hid ((RQ10.out.below (HS10.out)).more (HS10.out).size)
    have XA11 := Lib.hid (XA10.out.below (HS10.out) XA10.out.lt)
    clear XP10 XI10 RC10 XO10 XQ10 RQ10 XA10 HK10
    have XB11 := HX10
    have HV10y : Hid (BlksV y10 w10.heap.size (.slice A10 K2 c10) L2) := HV10.out.below HS10.out
    have HZ10 : Hid (w9.heap.size < w10.heap.size) := by have := XA11.out.lt; have := HBZ.out.size; have h1 := HBY.out; have h2 := HA0.out; show _ < _; omega
    have HV9z : Hid (BlksV y10 w9.heap.size (.slice A9 K1 c9) L1) := HV9y.out.below (((HBZ.out.mono HBY.out)).trans (HS10.out.mono (by have := HZ10.out; omega)))
    clear HX10 HS10 HV10 HV9y HBZ
    go_wp2_with fail
    refine (num13_any 0 _).mono ?_; rintro e _ ⟨rfl, rfl⟩
    try dsimp only
    go_wp2_with fail
    refine (num13_any E2 _).mono ?_; rintro e _ ⟨rfl, rfl⟩
    cases hcq : closedZ Q p.size p.data.length O
    · obtain ⟨q1, q2, q3⟩ := with_no hcq
      have hE : E2 = 1 := HE2.out.trans q3
      subst hE
      have HCQ := Lib.hid hcq
      clear hcq q1 q2 q3
      try dsimp only
      go_wp2_with (first
        | (refine wpList_load_box rfl 25 (.tmp 9) rfl bq 0 rfl [.slice (some ⟨b2, o2, none⟩) NQ c2, .int .i64 p.size, .slice D p.data.length d] [.slice (some ⟨b2, o2, none⟩) NQ c2, .int .i64 p.size, .slice D p.data.length d] XQ11.out whole_at _ Try.underlying25 rfl 3 size_prg rfl ?_)
        | (refine wpList_load_box rfl 26 (.tmp 8) rfl wo.heap.size 0 rfl (oV O) (oV O) XO11.out whole_at _ Try.underlying26 rfl 16 (by kernel_rfl) ((oV_len O).trans HOL.out) ?_))
      have hW := refClosed_any (some ⟨b2, o2, none⟩) c2 p.size D p.data.length d Q O y10 (by rw [HQL.out]; exact RQ11.out) (by omega) (by omega) HOL.out
      rw [HQL.out, HCQ.out] at hW
      refine hW.mono ?_; rintro e w11 ⟨rfl, hb11⟩
      have HE := Lib.hid (HK11.out.trans (hb11.mono HK11.out.size))
      clear hW hb11
      try dsimp only
      go_wp2_with fail
      go_ret
      exact ⟨by first | rfl | trivial, HE.out⟩
    obtain ⟨q1, q2, q3⟩ := with_yes hcq
    have hE : E2 = 0 := HE2.out.trans q3
    have hO2 : O2 = O := HO2.out.trans q2
    subst hE hO2
    have hbw := behind_with (x := x) HCL.out (by rw [← HQE.out]; exact hcq) ⟨li, HLI.out, HHT.out⟩ (by rw [← HN.out]; exact hlen) (by rw [← HN.out, ← HNQ.out]; exact HNT.out)
    rw [← HQE.out, ← HL2.out, ← HL1.out, ← HK2.out, ← HK1.out] at hbw
    obtain ⟨hk2, htk⟩ := hbw
    have HTK := Lib.hid htk
    have h1l : K1 ≤ 2000 := by
      rw [HK1.out, HL1.out, (with_yes HCL.out).1, List.length_map]
      exact Nat.le_trans (cut_len _ _ _) (cut_some HCL.out).2
    have HKK := Lib.hid hk2
    have hne : ((K2 : Int) != (K1 : Int) + 1) = false := by simp; omega
    have g1 : (K1 : Int) ≤ 2000 := by omega
    have g2 : (0 : Int) ≤ K1 := by omega
    have hc10 : (K2 : Int) ≤ c10 := by
      obtain ⟨rs, r1, _⟩ := HV10y.out
      rw [← HK2.out] at r1
      have := r1.cap; omega
    have g3 : (K1 : Int) ≤ c10 := by omega
    obtain ⟨b10, o10, rfl⟩ := HV10y.out.spot (by rw [← HK2.out]; omega)
    clear hcq q1 q2 q3 htk hk2
    have s1 : y10.cell? ⟨w9.heap.size, 0, none⟩ = some (.slice A9 K1 c9) := XA11.out.cell (k := 0) rfl
    have s2 : y10.cell? ⟨w10.heap.size, 0, none⟩ = some (.slice (some ⟨b10, o10, none⟩) K2 c10) := XB11.out.cell (k := 0) rfl
    have s3 : y10.frozen? ⟨w10.heap.size, 0, none⟩ = false := XB11.out.frozen 0
    try dsimp only
    go_upto_region 18 with (fail)
    obtain ⟨z, hz⟩ : ∃ z, z = y10.setCell ⟨w10.heap.size, 0, none⟩ (.slice (some ⟨b10, o10, none⟩) K1 c10) := ⟨_, rfl⟩
    have hks : KeepS (fun j => j = w10.heap.size) y10 z := by rw [hz]; exact (KeepS.refl (fun j => j = w10.heap.size) y10).setCell rfl _ _
    have HXA : Hid (Box z w9.heap.size (splV (.slice A9 K1 c9) O2)) := XA11.out.keepS hks (fun e => by have := HZ10.out; omega)
    have HXB : Hid (Box z w10.heap.size (splV (.slice (some ⟨b10, o10, none⟩) K1 c10) O2)) := by
      rw [hz]
      have := XB11.out.setCell 0 (.slice (some ⟨b10, o10, none⟩) K1 c10)
      exact this
    have hbz : Below w10.heap.size y10 z := hks.below (Nat.le_of_lt XB11.out.lt) (fun j e => by omega)
    have HVA : Hid (BlksV z z.heap.size (.slice A9 K1 c9) L1) := (HV9z.out.below (hbz.mono (by have := HZ10.out; omega))).more (by have := hbz.size; have := XB11.out.lt; have := hks.size; have := HZ10.out; omega)
    have HVB : Hid (BlksV z z.heap.size (.slice (some ⟨b10, o10, none⟩) K1 c10) L1) := by
      have h1 := (HV10y.out.below hbz).front (k := K1) HK2.out.symm (by have := HKK.out; omega) (by have := HKK.out; omega)
      rw [HTK.out] at h1
      exact h1.more (by have := XB11.out.lt; have := hks.size; omega)
    have HKZ : Hid (Below w.heap.size w z) := HK11.out.trans (hbz.mono (by have := HB69.out; have := HZ10.out; have := HPW.out; omega))
    rw [← hz]
    clear hz hks hbz s1 s2 s3
    go_wp2_with (first
      | (refine wpList_load_box rfl 29 (.tmp 11) rfl w9.heap.size 0 rfl (splV (.slice A9 K1 c9) O2) (splV (.slice A9 K1 c9) O2) HXA.out whole_at _ Try.underlying29 rfl 17 size_spl (splV_len N2.out) ?_)
      | (refine wpList_load_box rfl 29 (.tmp 13) rfl w10.heap.size 0 rfl (splV (.slice (some ⟨b10, o10, none⟩) K1 c10) O2) (splV (.slice (some ⟨b10, o10, none⟩) K1 c10) O2) HXB.out whole_at _ Try.underlying29 rfl 17 size_spl (splV_len N2.out) ?_))
    have hS := refSameSpl_any A9 (some ⟨b10, o10, none⟩) c9 c10 L1 L1 O2 O2 z N2.out N2.out (by rw [← HK1.out]; exact HVA.out) (by rw [← HK1.out]; exact HVB.out)
    rw [← HK1.out, decide_eq_true ⟨rfl, rfl⟩] at hS
    refine hS.mono ?_; rintro e w12 ⟨rfl, hb12⟩
    have HE := Lib.hid (HKZ.out.trans (hb12.mono HKZ.out.size))
    clear hS hb12
    try dsimp only
    go_wp2_with fail
    go_ret
    exact ⟨by first | rfl | trivial, HE.out⟩
end Go.Proofs.Ytbibfpopkcekdaa.Words

/- The walk of law 10's BlocksMore. -/
import Derived.Test.YtajiifplkfjnjaaBlkAlive
import Derived.Test.YtajiifplkfjnjaaImageHelp
import Derived.Test.YtajiifplkfjnjaaBlkMoreMath
import Derived.Test.YtajiifplkfjnjaaRefRight
import Derived.Test.YtajiifplkfjnjaaBlkRefLeads
import Derived.Test.YtajiifplkfjnjaaLinT
import Derived.OneCell
import Derived.BigQuiet
namespace Go.Proofs.Ytajiifplkfjnjaa.Words
set_option maxRecDepth 100000
open Go.RowKit
set_option linter.unusedVariables false

theorem few_partsM {n m : Nat} (h : fewB n m = true) : n ≤ 200 ∧ m ≤ 500 := of_decide_eq_true h
theorem info_insM : (Try.prog.info? 41).map (fun i => (i.zero, i.size, i.bytes)) = some (some (.agg #[.int .i64 0, .int .i64 0, .int .i64 0, .int .i64 0, .int .i64 0]), 5, 40) := by kernel_rfl
theorem insCells_oneM (i : Ins) : ∀ u ∈ insCells i, u.oneCell' = true := by
  intro u hu
  simp only [insCells, List.mem_cons, List.not_mem_nil, or_false] at hu
  rcases hu with rfl | rfl | rfl | rfl | rfl <;> rfl
theorem codeCells_oneM (l : List Ins) : ∀ u ∈ codeCells l, u.oneCell' = true := by
  intro u hu
  obtain ⟨i, _, h⟩ := List.mem_flatMap.1 hu
  exact insCells_oneM i u h
theorem quiet_mine10 {P : Program} {f : FuncId} {args : Array Value} {w : World} {n : Nat} {v : Value} (h : Calls P f args (w.drewN n) fun e w' => e = .returned v ∧ w.drewN n = w') :
    Calls P f args (w.drewN n) fun e w'' => e = .returned v ∧ ∃ m, w'' = w.drewN m := h.mono fun _ _ ⟨he, hm⟩ => ⟨he, n, hm.symm⟩
theorem own_ne_box {w : World} {base : Nat} {e t : TypeId} {size : Nat} {v : Value} {n : Nat} {xs : List Value} {b : Nat} {cs : Array Value} {r : Nat × Nat} (h : w.ownsRow base e size v n xs) (hb : w.heap[b]? = some (.cells cs t r)) (hne : e ≠ t) : v.ownBlock ≠ some b := by
  rcases h.2 with ⟨rfl, _⟩ | ⟨g, cap, cur, rfl, _, a1, _⟩
  · intro h; cases h
  · intro h
    simp only [Value.ownBlock, Option.some.injEq] at h
    subst h
    rw [a1] at hb
    simp only [Option.some.injEq, Obj.cells.injEq] at hb
    exact hne hb.2.1
theorem frozen_block {x y : World} {b k : Nat} (h : y.heap[b]? = x.heap[b]?) : y.frozen? ⟨b, k, none⟩ = x.frozen? ⟨b, k, none⟩ := by
  unfold World.frozen?; simp only [h]
/-- The cells of one block of a row. -/
theorem blk_cellsM {w : World} {B n c g : Nat} {l : List Blk} (h : Row w B 6 (.slice (some ⟨g, 0, none⟩) n c) n (flat blkL l)) {k : Nat} {b : Blk} (hb : l[k]? = some b) :
    w.cell? ⟨g, k * 6, none⟩ = some (.int .i64 b.from_) ∧ w.cell? ⟨g, k * 6 + 1, none⟩ = some (.int .i64 b.to) ∧ w.cell? ⟨g, k * 6 + 2, none⟩ = some (.int .i64 b.next) ∧ w.cell? ⟨g, k * 6 + 3, none⟩ = some (.int .i64 b.taken) ∧ w.cell? ⟨g, k * 6 + 4, none⟩ = some (.slice none 0 0) ∧ w.cell? ⟨g, k * 6 + 5, none⟩ = some (.slice none 0 0) := by
  have q : ∀ j u, j < 6 → (blkL b)[j]? = some u → w.cell? ⟨g, k * 6 + j, none⟩ = some u := fun j u hj hu => by
    have := h.flat_cell blkL_len hb hj hu
    rwa [Nat.zero_add] at this
  exact ⟨q 0 _ (by omega) rfl, q 1 _ (by omega) rfl, q 2 _ (by omega) rfl, q 3 _ (by omega) rfl, q 4 _ (by omega) rfl, q 5 _ (by omega) rfl⟩
theorem numZ_range (L : List Nat) (x : Int) : -1 ≤ numZ L x ∧ numZ L x ≤ L.length := by
  unfold numZ
  split
  · refine ⟨by omega, ?_⟩
    have : (L.map (fun y : Nat => (y : Int))).idxOf x ≤ (L.map (fun y : Nat => (y : Int))).length := List.idxOf_le_length
    rw [List.length_map] at this; omega
  · omega
theorem blk_range {l : List Ins} {k : Nat} (hk : k < (leadsZ l).length) : (0 ≤ (blkZ l (leadsZ l) k).from_ ∧ (blkZ l (leadsZ l) k).from_ ≤ l.length) ∧ (0 ≤ (blkZ l (leadsZ l) k).to ∧ (blkZ l (leadsZ l) k).to ≤ l.length) ∧
    (-1 ≤ (blkZ l (leadsZ l) k).next ∧ (blkZ l (leadsZ l) k).next ≤ (leadsZ l).length) ∧ (-1 ≤ (blkZ l (leadsZ l) k).taken ∧ (blkZ l (leadsZ l) k).taken ≤ (leadsZ l).length) := by
  have hr := blkTo_range (n := l.length) (leads_sorted l) (fun x hx => (mem_leads.1 hx).1) hk
  refine ⟨⟨?_, ?_⟩, ⟨?_, ?_⟩, ?_, ?_⟩
  · show (0 : Int) ≤ (((leadsZ l).getD k 0 : Nat) : Int); omega
  · show (((leadsZ l).getD k 0 : Nat) : Int) ≤ l.length; omega
  · show (0 : Int) ≤ ((blkToZ (leadsZ l) l.length k : Nat) : Int); omega
  · show ((blkToZ (leadsZ l) l.length k : Nat) : Int) ≤ l.length; omega
  · show -1 ≤ (if _ then numZ _ _ else _) ∧ (if _ then numZ _ _ else _) ≤ _
    split
    · exact numZ_range _ _
    · omega
  · show -1 ≤ (if _ then numZ _ _ else _) ∧ (if _ then numZ _ _ else _) ≤ _
    split
    · exact numZ_range _ _
    · omega
theorem leads_leM (l : List Ins) : (leadsZ l).length ≤ l.length := by rw [← leadsTo_all (Nat.le_refl _)]; exact leadsTo_le _ _ _
theorem shift2_any (n m : Int) (w : World) (h : -1 ≤ n ∧ n ≤ 8192 ∧ 0 ≤ m ∧ m ≤ 8192) :
    Calls Try.prog 17 #[.int .i64 n, .int .i64 m] w fun e w' => e = .returned (.int .i64 (shiftZ n m)) ∧ w = w' := shift_any n m w h

set_option maxHeartbeats 16000000 in
theorem blocksMore_walk (A : Option Addr) (c : Nat) (D : Option Addr) (d : Nat) (p : Prog) (Aq : Option Addr) (cq : Nat) (Dq : Option Addr) (dq : Nat) (q : Prog) (w : World) (hf : p.Fits) (hp : ProgV w w.heap.size (.slice A p.code.length c) (.slice D p.data.length d) p) (hf2 : q.Fits) (hq : ProgV w w.heap.size (.slice Aq q.code.length cq) (.slice Dq q.data.length dq) q) :
    Calls Try.prog 6 #[.agg #[.slice A p.code.length c, .int .i64 p.size, .slice D p.data.length d], .agg #[.slice Aq q.code.length cq, .int .i64 q.size, .slice Dq q.data.length dq]] w fun e w' => e = .returned (.bool true) ∧ Below w.heap.size w w' := by
  obtain ⟨i1, hi', hz0', hz1', hz2'⟩ := info_parts info_insM
  have HZ2' := Lib.hid hz2'
  clear hz2'
  obtain ⟨u1, u2⟩ := hp.code.cap
  obtain ⟨u3, u4⟩ := hp.data.cap
  obtain ⟨u5, u6⟩ := hq.code.cap
  obtain ⟨u7, u8⟩ := hq.data.cap
  have HK := Lib.hid (fun (x : World) (h : Kept ((w.alloc (.cells #[.slice A p.code.length c, .int .i64 p.size, .slice D p.data.length d] 25)).alloc (.cells #[.slice Aq q.code.length cq, .int .i64 q.size, .slice Dq q.data.length dq] 25)) x) => (((Below.refl w.heap.size w).alloc (Nat.le_refl _) (.cells #[.slice A p.code.length c, .int .i64 p.size, .slice D p.data.length d] 25)).alloc (by simp) (.cells #[.slice Aq q.code.length cq, .int .i64 q.size, .slice Dq q.data.length dq] 25)).trans (h.mono (by simp; omega)))
  have hB : w.heap.size < ((w.alloc (.cells #[.slice A p.code.length c, .int .i64 p.size, .slice D p.data.length d] 25)).alloc (.cells #[.slice Aq q.code.length cq, .int .i64 q.size, .slice Dq q.data.length dq] 25)).heap.size := by simp; omega
  have hB2 : w.heap.size + 1 < ((w.alloc (.cells #[.slice A p.code.length c, .int .i64 p.size, .slice D p.data.length d] 25)).alloc (.cells #[.slice Aq q.code.length cq, .int .i64 q.size, .slice Dq q.data.length dq] 25)).heap.size := by simp
  have HR := Lib.hid (((hp.code.alloc (Nat.le_refl _) (.cells #[.slice A p.code.length c, .int .i64 p.size, .slice D p.data.length d] 25)).alloc (by simp) (.cells #[.slice Aq q.code.length cq, .int .i64 q.size, .slice Dq q.data.length dq] 25)).more (Nat.le_of_lt hB))
  have HS := Lib.hid (((hq.code.alloc (Nat.le_refl _) (.cells #[.slice A p.code.length c, .int .i64 p.size, .slice D p.data.length d] 25)).alloc (by simp) (.cells #[.slice Aq q.code.length cq, .int .i64 q.size, .slice Dq q.data.length dq] 25)).more (Nat.le_of_lt hB))
  have c0 : ((w.alloc (.cells #[.slice A p.code.length c, .int .i64 p.size, .slice D p.data.length d] 25)).alloc (.cells #[.slice Aq q.code.length cq, .int .i64 q.size, .slice Dq q.data.length dq] 25)).cell? ⟨w.heap.size, 0, none⟩ = some (.slice A p.code.length c) := by go_simp
  have c1 : ((w.alloc (.cells #[.slice A p.code.length c, .int .i64 p.size, .slice D p.data.length d] 25)).alloc (.cells #[.slice Aq q.code.length cq, .int .i64 q.size, .slice Dq q.data.length dq] 25)).cell? ⟨w.heap.size, 1, none⟩ = some (.int .i64 p.size) := by go_simp
  have c2 : ((w.alloc (.cells #[.slice A p.code.length c, .int .i64 p.size, .slice D p.data.length d] 25)).alloc (.cells #[.slice Aq q.code.length cq, .int .i64 q.size, .slice Dq q.data.length dq] 25)).cell? ⟨w.heap.size, 2, none⟩ = some (.slice D p.data.length d) := by go_simp
  have e0 : ((w.alloc (.cells #[.slice A p.code.length c, .int .i64 p.size, .slice D p.data.length d] 25)).alloc (.cells #[.slice Aq q.code.length cq, .int .i64 q.size, .slice Dq q.data.length dq] 25)).cell? ⟨w.heap.size + 1, 0, none⟩ = some (.slice Aq q.code.length cq) := by go_simp
  have e1 : ((w.alloc (.cells #[.slice A p.code.length c, .int .i64 p.size, .slice D p.data.length d] 25)).alloc (.cells #[.slice Aq q.code.length cq, .int .i64 q.size, .slice Dq q.data.length dq] 25)).cell? ⟨w.heap.size + 1, 1, none⟩ = some (.int .i64 q.size) := by go_simp
  have e2 : ((w.alloc (.cells #[.slice A p.code.length c, .int .i64 p.size, .slice D p.data.length d] 25)).alloc (.cells #[.slice Aq q.code.length cq, .int .i64 q.size, .slice Dq q.data.length dq] 25)).cell? ⟨w.heap.size + 1, 2, none⟩ = some (.slice Dq q.data.length dq) := by go_simp
  clear hp hq
  go_enter Try.func6, Try.ntmps6
  go_wp2_with fail
  generalize ((w.alloc (.cells #[.slice A p.code.length c, .int .i64 p.size, .slice D p.data.length d] 25)).alloc (.cells #[.slice Aq q.code.length cq, .int .i64 q.size, .slice Dq q.data.length dq] 25)) = W at *
  have C0 := Lib.hid (fun (x : World) (h : Kept W x) => h.cell hB c0)
  have C1 := Lib.hid (fun (x : World) (h : Kept W x) => h.cell hB c1)
  have C2 := Lib.hid (fun (x : World) (h : Kept W x) => h.cell hB c2)
  have E0 := Lib.hid (fun (x : World) (h : Kept W x) => h.cell hB2 e0)
  have E1 := Lib.hid (fun (x : World) (h : Kept W x) => h.cell hB2 e1)
  have E2 := Lib.hid (fun (x : World) (h : Kept W x) => h.cell hB2 e2)
  clear c0 c1 c2 e0 e1 e2
  have k0 := Kept.refl W
  refine (alive10_any _).mono ?_; rintro e w1 ⟨rfl, hb1⟩
  have k1 := k0.to hb1
  have c0 := C0.out _ k1
  have c1 := C1.out _ k1
  have c2 := C2.out _ k1
  have e0 := E0.out _ k1
  have e1 := E1.out _ k1
  have e2 := E2.out _ k1
  clear hb1 k0
  by_cases hlp : 60 < p.code.length
  · have hl9 : (60 : Int) < p.code.length := by omega
    go_wp2_with fail
    go_ret
    exact ⟨rfl, HK.out _ k1⟩
  have hl1 : decide ((60 : Int) < p.code.length) = false := by simp; omega
  by_cases hlq : 60 < q.code.length
  · have hl9 : (60 : Int) < q.code.length := by omega
    go_wp2_with fail
    go_ret
    exact ⟨rfl, HK.out _ k1⟩
  have hl2 : decide ((60 : Int) < q.code.length) = false := by simp; omega
  go_wp2_with fail
  refine (refRight_any A c p.size D p.data.length d p.code _ (k1.row HR.out) (by omega) (by omega)).mono ?_; rintro e w2 ⟨rfl, hb2⟩
  have k2 := k1.to hb2
  have c0 := C0.out _ k2
  have c1 := C1.out _ k2
  have c2 := C2.out _ k2
  have e0 := E0.out _ k2
  have e1 := E1.out _ k2
  have e2 := E2.out _ k2
  clear hb2 k1
  cases hrp : rightZ p.code p.size p.data.length
  · go_wp2_with fail
    go_ret
    exact ⟨rfl, HK.out _ k2⟩
  go_wp2_with fail
  refine (refRight_any Aq cq q.size Dq q.data.length dq q.code _ (k2.row HS.out) (by omega) (by omega)).mono ?_; rintro e w3 ⟨rfl, hb3⟩
  have k3 := k2.to hb3
  have c0 := C0.out _ k3
  have c1 := C1.out _ k3
  have c2 := C2.out _ k3
  have e0 := E0.out _ k3
  have e1 := E1.out _ k3
  have e2 := E2.out _ k3
  clear hb3 k2
  cases hrq : rightZ q.code q.size q.data.length
  · go_wp2_with fail
    go_ret
    exact ⟨rfl, HK.out _ k3⟩
  obtain ⟨⟨n0, n1⟩, _⟩ := rightZ_parts hrp
  obtain ⟨⟨n2, n3⟩, _⟩ := rightZ_parts hrq
  have HRP := Lib.hid hrp
  have HRQ := Lib.hid hrq
  have HCP := Lib.hid (fun (x : World) (h : Kept W x) => blkCut_any A c p.size D p.data.length d p.code x (h.row HR.out) (by omega) (by omega))
  have HCQ := Lib.hid (fun (x : World) (h : Kept W x) => blkCut_any Aq cq q.size Dq q.data.length dq q.code x (h.row HS.out) (by omega) (by omega))
  have HCB := Lib.hid (fun (x : World) (A3 : Option Addr) (c3 : Nat) h => blkCut_any A3 c3 p.size D p.data.length d (p.code ++ q.code) x h (by omega) (by omega))
  obtain ⟨b, off, rfl, hbb, _⟩ := HR.out.at_ (by omega)
  obtain ⟨i, hi⟩ := at_some (l := p.code) (j := p.code.length - 1) (by omega)
  have HLi := Lib.hid hi
  have hcl := (k3.row HR.out).ins hi
  obtain ⟨d0, _⟩ := hcl
  have HPN := Lib.hid (show p.code.length ≤ 60 by omega)
  have HQN := Lib.hid (show q.code.length ≤ 60 by omega)
  have HPQ := Lib.hid (show (p.code ++ q.code).length = p.code.length + q.code.length from List.length_append)
  clear hi hbb hrp hrq
  generalize hn : p.code.length = n at *
  have HN := Lib.hid hn
  clear hn
  obtain ⟨N, rfl⟩ : ∃ N, n = N + 1 := ⟨n - 1, by omega⟩
  rw [Nat.add_sub_cancel] at d0
  have q0 : (0 : Int) ≤ N := by omega
  by_cases hop : i.op = 41
  rotate_left
  · have hq41 : (i.op != 41) = true := by simpa using hop
    clear hop
    go_wp2_with fail
    go_ret
    exact ⟨rfl, HK.out _ k3⟩
  have hq41 : (i.op != 41) = false := by simp [hop]
  have T := Lib.hid (two_of HRP.out HRQ.out ⟨i, by rw [HN.out]; exact HLi.out, hop⟩)
  clear hop
  go_wp2_with fail
  refine (HCP.out _ k3).mono ?_; rintro e w6 ⟨v6, rfl, own6, hb6⟩
  rw [show cutR p.code p.size p.data.length = cutZ p.code by unfold cutR; rw [if_pos HRP.out], cutZ_len] at own6
  have k6 := k3.to hb6
  have hLP := (leads_first (l := p.code) (by rw [HN.out]; omega)).1
  have hLQ := (leads_first (l := q.code) (by omega)).1
  obtain ⟨ga, ca, rfl, _, hgza⟩ := own_form own6 (by omega)
  have R6 := Lib.hid (Row.of_own own6)
  clear hb6 k3 own6 c0 c1 c2 e0 e1 e2 d0
  have c0 := C0.out
  have c1 := C1.out
  have c2 := C2.out
  have e0 := E0.out
  have k6d : Kept W w6.drew := k6.drew
  have c0 : ∀ x, Kept w6 x → _ := fun x h => C0.out x (k6.trans h)
  have c1 : ∀ x, Kept w6 x → _ := fun x h => C1.out x (k6.trans h)
  have c2 : ∀ x, Kept w6 x → _ := fun x h => C2.out x (k6.trans h)
  have e0 : ∀ x, Kept w6 x → _ := fun x h => E0.out x (k6.trans h)
  have kk : Kept w6 w6.drew := (Kept.refl w6).drew
  have HRx := Lib.hid (fun (x : World) (h : Kept w6 x) => (k6.trans h).row HR.out)
  have HSx := Lib.hid (fun (x : World) (h : Kept w6 x) => (k6.trans h).row HS.out)
  go_wp2_with fail
  refine wp_region_tree _ (LinT.of [(0, true), (1, true), (2, true), (3, true), (4, true), (5, true), (7, true), (8, true)] (.two 6 11 (LinT.of [] (.two 9 11 (LinT.of [(10, true), (11, false), (12, false)] .nil) (LinT.of [(9, false), (10, true), (12, false)] .nil))) (LinT.of [(6, false), (9, false), (10, true), (12, false)] .nil))) (by kernel_rfl) (by kernel_rfl) rfl (by kernel_rfl) (Kept w6) (fun _ _ h => h) ?_
  simp only [LinT.of, LinT.look, List.getElem?_toArray, List.getElem?_cons_succ, List.getElem?_cons_zero]
  iterate 8 (refine tree_take (v := ?_) (by assumption) (by rfl) ?_ ?_; rotate_left; (intro x hx; (try dsimp only at hx); go_simp; try (with_reducible rfl)); (try simp only [Act.put, List.setIfInBounds_toArray, List.set_cons_zero, List.set_cons_succ]))
  have hRP := Lib.hid (HRx.out)
  have hlen9 : N + 1 + q.code.length ≤ 120 := by have := HPN.out; have := HQN.out; omega
  refine tree_two (by assumption) (by rfl) (by rfl) (fun K hK => ?_) (fun K hK => ?_)
  · refine wp_append_row _ (.const (.slice none 0 0)) (.tmp 57) 22 rfl w6.heap.size 41 i1 (.agg #[.int .i64 0, .int .i64 0, .int .i64 0, .int .i64 0, .int .i64 0]) 5 40 Try.underlying22 hi' hz0' hz1' HZ2'.out rfl (by omega) (.slice none 0 0) 0 [] rfl (World.ownsRow_nil _ _ _ _) _ _ (N + 1) _ rfl (HRx.out _ kk) (codeCells_oneM _) (by unfold maxLen; omega) (by omega) kk.size ?_
    intro v1 y1 hown1 hg1
    simp only [Nat.zero_add, List.nil_append] at hown1
    have kB : Kept w6 y1 := Below.grown kk hg1 kk.size (fun k hk => (by cases hk))
    obtain ⟨B1, b1c, rfl⟩ := (Row.of_own hown1).form
    refine hK.out _ _ kB (fun _ => ?_)
    clear hK K
    try simp only [Act.put, List.setIfInBounds_toArray, List.set_cons_zero, List.set_cons_succ]
    refine tree_two (by assumption) (by rfl) (by rfl) (fun K hK => ?_) (fun K hK => ?_)
    · refine wp_append_row _ (.tmp 58) (.tmp 60) 22 rfl w6.heap.size 41 i1 (.agg #[.int .i64 0, .int .i64 0, .int .i64 0, .int .i64 0, .int .i64 0]) 5 40 Try.underlying22 hi' hz0' hz1' HZ2'.out rfl (by omega) _ (N + 1) (codeCells p.code) rfl hown1 _ _ q.code.length _ rfl (HSx.out _ kB) (codeCells_oneM _) (by unfold maxLen; omega) (by omega) kB.size ?_
      intro v2 y2 hown2 hg2
      rw [← codeCells_append] at hown2
      have kC : Kept w6 y2 := Below.grown kB hg2 kB.size (fun k hk => (hown1.lt k hk).1)
      obtain ⟨B2, b2c, rfl⟩ := (Row.of_own hown2).form
      refine hK.out _ _ kC (fun _ => ?_)
      clear hK K
      try simp only [Act.put, List.setIfInBounds_toArray, List.set_cons_zero, List.set_cons_succ]
      (refine tree_take (v := ?_) (by assumption) (by rfl) ?_ ?_; rotate_left; (intro x hx; (try dsimp only at hx); go_simp; try (with_reducible rfl)); (try simp only [Act.put, List.setIfInBounds_toArray, List.set_cons_zero, List.set_cons_succ]))
      refine tree_call (by assumption) (by rfl) (fun K hK => ?_)
      go_simp
      refine hK.out _ _ (kC.alloc _) (fun _ => ?_)
      clear hK K
      try simp only [Act.put, List.setIfInBounds_toArray, List.set_cons_zero, List.set_cons_succ]
      refine tree_call (by assumption) (by rfl) (fun K hK => ?_)
      go_simp
      have kY : Kept w6 (y2.alloc (.cells #[.slice B2 (N + 1 + q.code.length) b2c, .int .i64 p.size, .slice D p.data.length d] 25)) := kC.alloc _
      refine hK.out _ _ kY (fun _ => ?_)
      clear hK K
      try simp only [Act.put, List.setIfInBounds_toArray, List.set_cons_zero, List.set_cons_succ]
      refine tree_done ?_
      have x0 : (y2.alloc (.cells #[.slice B2 (N + 1 + q.code.length) b2c, .int .i64 p.size, .slice D p.data.length d] 25)).cell? ⟨y2.heap.size, 0, none⟩ = some (.slice B2 (N + 1 + q.code.length) b2c) := by go_simp
      have x1 : (y2.alloc (.cells #[.slice B2 (N + 1 + q.code.length) b2c, .int .i64 p.size, .slice D p.data.length d] 25)).cell? ⟨y2.heap.size, 1, none⟩ = some (.int .i64 p.size) := by go_simp
      have x2 : (y2.alloc (.cells #[.slice B2 (N + 1 + q.code.length) b2c, .int .i64 p.size, .slice D p.data.length d] 25)).cell? ⟨y2.heap.size, 2, none⟩ = some (.slice D p.data.length d) := by go_simp
      have hPB : y2.heap.size < (y2.alloc (.cells #[.slice B2 (N + 1 + q.code.length) b2c, .int .i64 p.size, .slice D p.data.length d] 25)).heap.size := by simp
      have ownY := hown2.alloc (.cells #[.slice B2 (N + 1 + q.code.length) b2c, .int .i64 p.size, .slice D p.data.length d] 25)
      generalize (y2.alloc (.cells #[.slice B2 (N + 1 + q.code.length) b2c, .int .i64 p.size, .slice D p.data.length d] 25)) = Y at *
      clear hown1 hg1 hown2 hg2 kB kC
      generalize y2.heap.size = PB at *
      clear c0 c1 c2 e0 kk hRP HRx HSx
      have kYW : Kept W Y := k6.trans kY
      have R6Y := Lib.hid (kY.row R6.out)
      have hCB := HCB.out Y B2 b2c (by rw [HPQ.out]; exact Row.of_own ownY)
      rw [HPQ.out] at hCB
      have HCBx := Lib.hid hCB
      clear hCB ownY
      go_wp2_with fail
      refine HCBx.out.mono ?_; rintro e w7 ⟨v7, rfl, own7, hb7⟩
      rw [show cutR (p.code ++ q.code) p.size p.data.length = cutZ (p.code ++ q.code) by unfold cutR; rw [if_pos (two_right HRP.out HRQ.out T.out (by have := HPN.out; have := HQN.out; have := HN.out; omega))], cutZ_len, two_len T.out] at own7
      have k7 := kYW.to hb7
      obtain ⟨gb, cb, rfl, _, hgzb⟩ := own_form own7 (by omega)
      have R7 := Lib.hid (Row.of_own own7)
      have R67 := Lib.hid ((R6Y.out.below hb7).more hb7.size)
      have e0 := E0.out _ k7
      have e1 := E1.out _ k7
      have e2 := E2.out _ k7
      have HCQx := Lib.hid (HCQ.out _ k7)
      clear hb7 own7 x0 x1 x2
      go_wp2_with fail
      refine HCQx.out.mono ?_; rintro e w8 ⟨v8, rfl, own8, hb8⟩
      rw [show cutR q.code q.size q.data.length = cutZ q.code by unfold cutR; rw [if_pos HRQ.out], cutZ_len] at own8
      have k8 := k7.to hb8
      obtain ⟨gq, cq', rfl, _, hgzq⟩ := own_form own8 (by omega)
      have HBQ := Lib.hid (fun (x : World) (h : Kept w8 x) (k : Nat) (hk : k < (leadsZ q.code).length) => blk_cellsM (h.row (Row.of_own own8)) (cutZ_get hk))
      have HBB := Lib.hid (fun (x : World) (h : Kept w8 x) (k : Nat) (hk : k < (leadsZ p.code).length + (leadsZ q.code).length) => blk_cellsM (h.row ((R7.out.below hb8).more hb8.size)) (cutZ_get (by rw [two_len T.out]; exact hk)))
      have HBA := Lib.hid (fun (x : World) (h : Kept w8 x) (k : Nat) (hk : k < (leadsZ p.code).length) => blk_cellsM (h.row ((R67.out.below hb8).more hb8.size)) (cutZ_get hk))
      have hz1 : ga < w8.heap.size := by have := hb8.size; have := k7.size; have := kY.size; omega
      have hz2 : gb < w8.heap.size := by have := hb8.size; omega
      have HBL := Lib.hid (fun (k : Nat) (hk : k < (leadsZ p.code).length) => blk_left T.out hk)
      have HBR := Lib.hid (fun (k : Nat) (hk : k < (leadsZ q.code).length) => blk_right T.out hk)
      have HBG := Lib.hid (fun (k : Nat) (hk : k < (leadsZ q.code).length) => blk_range (l := q.code) hk)
      rw [HN.out] at HBR
      have hla : (leadsZ p.code).length ≤ 60 := by have := leads_leM p.code; have := HPN.out; have := HN.out; omega
      have hlb : (leadsZ q.code).length ≤ 60 := by have := leads_leM q.code; have := HQN.out; omega
      have HQN2 := Lib.hid HQN.out
      clear hb8 own8 R7 R67 R6Y HCQx HCBx e0 e1 e2
      generalize hLA : (leadsZ p.code).length = LA at *
      generalize hLQ : (leadsZ q.code).length = LQ at *
      clear hLA hLQ
      have hbl : ((LA : Int) + LQ != LA + LQ) = false := by simp
      go_wp2_with fail
      go_loopw [10] (fun a wr => ∃ k : Nat, k ≤ LA + LQ ∧ a = .int .i64 k ∧ Kept w8 wr) (fun a _ => LA + LQ - (intOf a).toNat)
      case atStart => exact ⟨0, Nat.zero_le _, rfl, Kept.refl _⟩
      case round =>
        obtain ⟨k, hkK, rfl, hk⟩ := hrel
        have c0 := C0.out _ (k8.trans hk)
        have hwz := hk.size
        have hga : ga < wr.heap.size := by omega
        have hgb : gb < wr.heap.size := by omega
        have hgq : gq < wr.heap.size := by omega
        have hww : w.heap.size < wr.heap.size := by have := (k8.trans hk).size; omega
        by_cases hlt : k < LA + LQ
        · obtain ⟨z0, z1, z2, z3, z4, z5⟩ := HBB.out _ hk k hlt
          have j0 : (0 : Int) ≤ k := by omega
          have j1 : (k : Int) < (LA : Int) + LQ := by omega
          by_cases hka : k < LA
          · rw [HBL.out k hka] at z0 z1 z2 z3
            obtain ⟨y0, y1, y2, y3, y4, y5⟩ := HBA.out _ hk k hka
            have j2 : (k : Int) < LA := by omega
            generalize blkZ p.code (leadsZ p.code) k = yb at *
            go_wp2_with fail
            go_roundw
            case rel => exact ⟨k + 1, by omega, by go_num, (hk.alloc _).alloc _⟩
            case measure => simp [intOf]; omega
          · obtain ⟨m, rfl⟩ : ∃ m, k = LA + m := ⟨k - LA, by omega⟩
            have hm : m < LQ := by omega
            rw [HBR.out m hm] at z0 z1 z2 z3
            obtain ⟨y0, y1, y2, y3, y4, y5⟩ := HBQ.out _ hk m hm
            obtain ⟨⟨g0, g1⟩, ⟨g2, g3⟩, ⟨g4, g5⟩, g6, g7⟩ := HBG.out m hm
            have hqn := HQN2.out
            have j2 : ¬ ((LA : Int) + m) < LA := by omega
            have m0 : (0 : Int) ≤ m := by omega
            have m1 : (m : Int) < LQ := by omega
            have SX := Lib.hid (fun x => shift2_any (blkZ q.code (leadsZ q.code) m).next LA x (by omega))
            have ST := Lib.hid (fun x => shift2_any (blkZ q.code (leadsZ q.code) m).taken LA x (by omega))
            have hpn := HPN.out
            have hj3 : (((LA + m : Nat) : Int)) - LA = m := by omega
            dsimp only at z0 z1 z2 z3
            rw [Int.natCast_add, Int.natCast_one] at z0 z1
            generalize blkZ q.code (leadsZ q.code) m = yb at *
            go_wp2_with fail
            go_quiet ((go_at_call 17; first | refine quiet_mine10 (SX.out _) | refine quiet_mine10 (ST.out _)))
            go_wp2_with fail
            go_roundw
            case rel => exact ⟨LA + m + 1, by omega, by go_num, ((hk.alloc _).alloc _).drewN _⟩
            case measure => simp [intOf]; omega
        · go_wp2_with fail
          go_ret
          exact ⟨rfl, HK.out _ (k8.trans hk)⟩
    · go_simp
      have kC : Kept w6 (y1.alloc (.cells #[.slice none 0 0, .int .i64 0, .slice none 0 0] 25)) := kB.alloc _
      refine hK.out _ _ kC (fun _ => ?_)
      clear hK K
      try simp only [Act.put, List.setIfInBounds_toArray, List.set_cons_zero, List.set_cons_succ]
      have p0 : (y1.alloc (.cells #[.slice none 0 0, .int .i64 0, .slice none 0 0] 25)).cell? ⟨y1.heap.size, 0, none⟩ = some (.slice none 0 0) := by go_simp
      have p1 : (y1.alloc (.cells #[.slice none 0 0, .int .i64 0, .slice none 0 0] 25)).cell? ⟨y1.heap.size, 1, none⟩ = some (.int .i64 0) := by go_simp
      have p2 : (y1.alloc (.cells #[.slice none 0 0, .int .i64 0, .slice none 0 0] 25)).cell? ⟨y1.heap.size, 2, none⟩ = some (.slice none 0 0) := by go_simp
      have pf : ∀ k, (y1.alloc (.cells #[.slice none 0 0, .int .i64 0, .slice none 0 0] 25)).frozen? ⟨y1.heap.size, k, none⟩ = false := fun k => by go_simp
      have ps : y1.heap.size < (y1.alloc (.cells #[.slice none 0 0, .int .i64 0, .slice none 0 0] 25)).heap.size := by simp
      have pb : (y1.alloc (.cells #[.slice none 0 0, .int .i64 0, .slice none 0 0] 25)).heap[y1.heap.size]? = some (.cells #[.slice none 0 0, .int .i64 0, .slice none 0 0] 25) := heap_alloc_new y1 _
      have hownA := hown1.alloc (.cells #[.slice none 0 0, .int .i64 0, .slice none 0 0] 25)
      have pq : w6.heap.size ≤ y1.heap.size := kB.size
      generalize y1.alloc (.cells #[.slice none 0 0, .int .i64 0, .slice none 0 0] 25) = W4 at *
      generalize y1.heap.size = PB at *
      refine tree_call (by assumption) (by rfl) (fun K hK => ?_)
      refine wp_append_row _ (.tmp 58) (.tmp 60) 22 rfl w6.heap.size 41 i1 (.agg #[.int .i64 0, .int .i64 0, .int .i64 0, .int .i64 0, .int .i64 0]) 5 40 Try.underlying22 hi' hz0' hz1' HZ2'.out rfl (by omega) _ (N + 1) (codeCells p.code) rfl hownA _ _ q.code.length _ rfl (HSx.out _ kC) (codeCells_oneM _) (by unfold maxLen; omega) (by omega) kC.size ?_
      intro v2 y2 hown2 hg2
      rw [← codeCells_append] at hown2
      have gb := hg2.block PB ps (fun e => own_ne_box hownA pb (by decide) e.symm)
      have p0 := (World.cell?_of_block (a := ⟨PB, 0, none⟩) gb).trans p0
      have p1 := (World.cell?_of_block (a := ⟨PB, 1, none⟩) gb).trans p1
      have p2 := (World.cell?_of_block (a := ⟨PB, 2, none⟩) gb).trans p2
      have pf : ∀ k, y2.frozen? ⟨PB, k, none⟩ = false := fun k => (frozen_block gb).trans (pf k)
      have pb := gb.trans pb
      have ps : PB < y2.heap.size := Nat.lt_of_lt_of_le ps hg2.size
      have kD : Kept w6 y2 := Below.grown kC hg2 kC.size (fun k hk => (hownA.lt k hk).1)
      obtain ⟨B2, b2c, rfl⟩ := (Row.of_own hown2).form
      have hne := own_ne_box hown2 pb (by decide)
      have hs9 := ps
      refine hK.out _ _ kD (fun _ => ?_)
      clear hK K
      try simp only [Act.put, List.setIfInBounds_toArray, List.set_cons_zero, List.set_cons_succ]
      have pf0 := pf 0
      have pf1 := pf 1
      have pf2 := pf 2
      clear pf
      (refine tree_take (v := ?_) (by assumption) (by rfl) ?_ ?_; rotate_left; (intro x hx; (try dsimp only at hx); go_simp; try (with_reducible rfl)); (try simp only [Act.put, List.setIfInBounds_toArray, List.set_cons_zero, List.set_cons_succ]))
      refine tree_call (by assumption) (by rfl) (fun K hK => ?_)
      go_simp
      have kY : Kept w6 (((y2.setCell ⟨PB, 0, none⟩ (.slice B2 (N + 1 + q.code.length) b2c)).setCell ⟨PB, 1, none⟩ (.int .i64 p.size)).setCell ⟨PB, 2, none⟩ (.slice D p.data.length d)) := ((Kept.set kD (by omega) _).set (by omega) _).set (by omega) _
      refine hK.out _ _ kY (fun _ => ?_)
      clear hK K
      try simp only [Act.put, List.setIfInBounds_toArray, List.set_cons_zero, List.set_cons_succ]
      refine tree_done ?_
      have x0 : ((((y2.setCell ⟨PB, 0, none⟩ (.slice B2 (N + 1 + q.code.length) b2c)).setCell ⟨PB, 1, none⟩ (.int .i64 p.size)).setCell ⟨PB, 2, none⟩ (.slice D p.data.length d))).cell? ⟨PB, 0, none⟩ = some (.slice B2 (N + 1 + q.code.length) b2c) := by go_simp
      have x1 : ((((y2.setCell ⟨PB, 0, none⟩ (.slice B2 (N + 1 + q.code.length) b2c)).setCell ⟨PB, 1, none⟩ (.int .i64 p.size)).setCell ⟨PB, 2, none⟩ (.slice D p.data.length d))).cell? ⟨PB, 1, none⟩ = some (.int .i64 p.size) := by go_simp
      have x2 : ((((y2.setCell ⟨PB, 0, none⟩ (.slice B2 (N + 1 + q.code.length) b2c)).setCell ⟨PB, 1, none⟩ (.int .i64 p.size)).setCell ⟨PB, 2, none⟩ (.slice D p.data.length d))).cell? ⟨PB, 2, none⟩ = some (.slice D p.data.length d) := by go_simp
      have hPB : PB < ((((y2.setCell ⟨PB, 0, none⟩ (.slice B2 (N + 1 + q.code.length) b2c)).setCell ⟨PB, 1, none⟩ (.int .i64 p.size)).setCell ⟨PB, 2, none⟩ (.slice D p.data.length d))).heap.size := by simpa using hs9
      have ownY : ((((y2.setCell ⟨PB, 0, none⟩ (.slice B2 (N + 1 + q.code.length) b2c)).setCell ⟨PB, 1, none⟩ (.int .i64 p.size)).setCell ⟨PB, 2, none⟩ (.slice D p.data.length d))).ownsRow w6.heap.size 41 5 (.slice B2 (N + 1 + q.code.length) b2c) (N + 1 + q.code.length) (codeCells (p.code ++ q.code)) := ownsRow_setCell_other (ownsRow_setCell_other (ownsRow_setCell_other hown2 hne _) hne _) hne _
      generalize ((((y2.setCell ⟨PB, 0, none⟩ (.slice B2 (N + 1 + q.code.length) b2c)).setCell ⟨PB, 1, none⟩ (.int .i64 p.size)).setCell ⟨PB, 2, none⟩ (.slice D p.data.length d))) = Y at *
      generalize PB = PB at *
      clear c0 c1 c2 e0 kk hRP HRx HSx
      have kYW : Kept W Y := k6.trans kY
      have R6Y := Lib.hid (kY.row R6.out)
      have hCB := HCB.out Y B2 b2c (by rw [HPQ.out]; exact Row.of_own ownY)
      rw [HPQ.out] at hCB
      have HCBx := Lib.hid hCB
      clear hCB ownY
      go_wp2_with fail
      refine HCBx.out.mono ?_; rintro e w7 ⟨v7, rfl, own7, hb7⟩
      rw [show cutR (p.code ++ q.code) p.size p.data.length = cutZ (p.code ++ q.code) by unfold cutR; rw [if_pos (two_right HRP.out HRQ.out T.out (by have := HPN.out; have := HQN.out; have := HN.out; omega))], cutZ_len, two_len T.out] at own7
      have k7 := kYW.to hb7
      obtain ⟨gb, cb, rfl, _, hgzb⟩ := own_form own7 (by omega)
      have R7 := Lib.hid (Row.of_own own7)
      have R67 := Lib.hid ((R6Y.out.below hb7).more hb7.size)
      have e0 := E0.out _ k7
      have e1 := E1.out _ k7
      have e2 := E2.out _ k7
      have HCQx := Lib.hid (HCQ.out _ k7)
      clear hb7 own7 x0 x1 x2
      go_wp2_with fail
      refine HCQx.out.mono ?_; rintro e w8 ⟨v8, rfl, own8, hb8⟩
      rw [show cutR q.code q.size q.data.length = cutZ q.code by unfold cutR; rw [if_pos HRQ.out], cutZ_len] at own8
      have k8 := k7.to hb8
      obtain ⟨gq, cq', rfl, _, hgzq⟩ := own_form own8 (by omega)
      have HBQ := Lib.hid (fun (x : World) (h : Kept w8 x) (k : Nat) (hk : k < (leadsZ q.code).length) => blk_cellsM (h.row (Row.of_own own8)) (cutZ_get hk))
      have HBB := Lib.hid (fun (x : World) (h : Kept w8 x) (k : Nat) (hk : k < (leadsZ p.code).length + (leadsZ q.code).length) => blk_cellsM (h.row ((R7.out.below hb8).more hb8.size)) (cutZ_get (by rw [two_len T.out]; exact hk)))
      have HBA := Lib.hid (fun (x : World) (h : Kept w8 x) (k : Nat) (hk : k < (leadsZ p.code).length) => blk_cellsM (h.row ((R67.out.below hb8).more hb8.size)) (cutZ_get hk))
      have hz1 : ga < w8.heap.size := by have := hb8.size; have := k7.size; have := kY.size; omega
      have hz2 : gb < w8.heap.size := by have := hb8.size; omega
      have HBL := Lib.hid (fun (k : Nat) (hk : k < (leadsZ p.code).length) => blk_left T.out hk)
      have HBR := Lib.hid (fun (k : Nat) (hk : k < (leadsZ q.code).length) => blk_right T.out hk)
      have HBG := Lib.hid (fun (k : Nat) (hk : k < (leadsZ q.code).length) => blk_range (l := q.code) hk)
      rw [HN.out] at HBR
      have hla : (leadsZ p.code).length ≤ 60 := by have := leads_leM p.code; have := HPN.out; have := HN.out; omega
      have hlb : (leadsZ q.code).length ≤ 60 := by have := leads_leM q.code; have := HQN.out; omega
      have HQN2 := Lib.hid HQN.out
      clear hb8 own8 R7 R67 R6Y HCQx HCBx e0 e1 e2
      generalize hLA : (leadsZ p.code).length = LA at *
      generalize hLQ : (leadsZ q.code).length = LQ at *
      clear hLA hLQ
      have hbl : ((LA : Int) + LQ != LA + LQ) = false := by simp
      go_wp2_with fail
      go_loopw [10] (fun a wr => ∃ k : Nat, k ≤ LA + LQ ∧ a = .int .i64 k ∧ Kept w8 wr) (fun a _ => LA + LQ - (intOf a).toNat)
      case atStart => exact ⟨0, Nat.zero_le _, rfl, Kept.refl _⟩
      case round =>
        obtain ⟨k, hkK, rfl, hk⟩ := hrel
        have c0 := C0.out _ (k8.trans hk)
        have hwz := hk.size
        have hga : ga < wr.heap.size := by omega
        have hgb : gb < wr.heap.size := by omega
        have hgq : gq < wr.heap.size := by omega
        have hww : w.heap.size < wr.heap.size := by have := (k8.trans hk).size; omega
        by_cases hlt : k < LA + LQ
        · obtain ⟨z0, z1, z2, z3, z4, z5⟩ := HBB.out _ hk k hlt
          have j0 : (0 : Int) ≤ k := by omega
          have j1 : (k : Int) < (LA : Int) + LQ := by omega
          by_cases hka : k < LA
          · rw [HBL.out k hka] at z0 z1 z2 z3
            obtain ⟨y0, y1, y2, y3, y4, y5⟩ := HBA.out _ hk k hka
            have j2 : (k : Int) < LA := by omega
            generalize blkZ p.code (leadsZ p.code) k = yb at *
            go_wp2_with fail
            go_roundw
            case rel => exact ⟨k + 1, by omega, by go_num, (hk.alloc _).alloc _⟩
            case measure => simp [intOf]; omega
          · obtain ⟨m, rfl⟩ : ∃ m, k = LA + m := ⟨k - LA, by omega⟩
            have hm : m < LQ := by omega
            rw [HBR.out m hm] at z0 z1 z2 z3
            obtain ⟨y0, y1, y2, y3, y4, y5⟩ := HBQ.out _ hk m hm
            obtain ⟨⟨g0, g1⟩, ⟨g2, g3⟩, ⟨g4, g5⟩, g6, g7⟩ := HBG.out m hm
            have hqn := HQN2.out
            have j2 : ¬ ((LA : Int) + m) < LA := by omega
            have m0 : (0 : Int) ≤ m := by omega
            have m1 : (m : Int) < LQ := by omega
            have SX := Lib.hid (fun x => shift2_any (blkZ q.code (leadsZ q.code) m).next LA x (by omega))
            have ST := Lib.hid (fun x => shift2_any (blkZ q.code (leadsZ q.code) m).taken LA x (by omega))
            have hpn := HPN.out
            have hj3 : (((LA + m : Nat) : Int)) - LA = m := by omega
            dsimp only at z0 z1 z2 z3
            rw [Int.natCast_add, Int.natCast_one] at z0 z1
            generalize blkZ q.code (leadsZ q.code) m = yb at *
            go_wp2_with fail
            go_quiet ((go_at_call 17; first | refine quiet_mine10 (SX.out _) | refine quiet_mine10 (ST.out _)))
            go_wp2_with fail
            go_roundw
            case rel => exact ⟨LA + m + 1, by omega, by go_num, ((hk.alloc _).alloc _).drewN _⟩
            case measure => simp [intOf]; omega
        · go_wp2_with fail
          go_ret
          exact ⟨rfl, HK.out _ (k8.trans hk)⟩
  · go_simp
    have kA : Kept w6 ((w6.alloc (.cells #[.slice none 0 0, .int .i64 0, .slice none 0 0] 25)).drew) := ((Kept.refl w6).alloc _).drew
    refine hK.out _ _ kA (fun _ => ?_)
    clear hK K
    try simp only [Act.put, List.setIfInBounds_toArray, List.set_cons_zero, List.set_cons_succ]
    have pq : w6.heap.size ≤ w6.heap.size := Nat.le_refl _
    have p0 : ((w6.alloc (.cells #[.slice none 0 0, .int .i64 0, .slice none 0 0] 25)).drew).cell? ⟨w6.heap.size, 0, none⟩ = some (.slice none 0 0) := by go_simp
    have p1 : ((w6.alloc (.cells #[.slice none 0 0, .int .i64 0, .slice none 0 0] 25)).drew).cell? ⟨w6.heap.size, 1, none⟩ = some (.int .i64 0) := by go_simp
    have p2 : ((w6.alloc (.cells #[.slice none 0 0, .int .i64 0, .slice none 0 0] 25)).drew).cell? ⟨w6.heap.size, 2, none⟩ = some (.slice none 0 0) := by go_simp
    have pf : ∀ k, ((w6.alloc (.cells #[.slice none 0 0, .int .i64 0, .slice none 0 0] 25)).drew).frozen? ⟨w6.heap.size, k, none⟩ = false := fun k => by go_simp
    have ps : w6.heap.size < ((w6.alloc (.cells #[.slice none 0 0, .int .i64 0, .slice none 0 0] 25)).drew).heap.size := by simp
    have pb : (w6.alloc (.cells #[.slice none 0 0, .int .i64 0, .slice none 0 0] 25)).drew.heap[w6.heap.size]? = some (.cells #[.slice none 0 0, .int .i64 0, .slice none 0 0] 25) := heap_alloc_new w6 _
    obtain ⟨PB, hPBe⟩ : ∃ PB, PB = w6.heap.size := ⟨_, rfl⟩
    rw [← hPBe] at p0 p1 p2 pf pb ps ⊢
    generalize (w6.alloc (.cells #[.slice none 0 0, .int .i64 0, .slice none 0 0] 25)).drew = W4 at *
    have pq : w6.heap.size ≤ PB := by omega
    have HPE := Lib.hid hPBe
    clear hPBe
    refine tree_call (by assumption) (by rfl) (fun K hK => ?_)
    refine wp_append_row _ (.const (.slice none 0 0)) (.tmp 57) 22 rfl w6.heap.size 41 i1 (.agg #[.int .i64 0, .int .i64 0, .int .i64 0, .int .i64 0, .int .i64 0]) 5 40 Try.underlying22 hi' hz0' hz1' HZ2'.out rfl (by omega) (.slice none 0 0) 0 [] rfl (World.ownsRow_nil _ _ _ _) _ _ (N + 1) _ rfl (HRx.out _ kA) (codeCells_oneM _) (by unfold maxLen; omega) (by omega) kA.size ?_
    intro v1 y1 hown1 hg1
    simp only [Nat.zero_add, List.nil_append] at hown1
    have gb := hg1.block PB ps (fun e => by cases e)
    have p0 := (World.cell?_of_block (a := ⟨PB, 0, none⟩) gb).trans p0
    have p1 := (World.cell?_of_block (a := ⟨PB, 1, none⟩) gb).trans p1
    have p2 := (World.cell?_of_block (a := ⟨PB, 2, none⟩) gb).trans p2
    have pf : ∀ k, y1.frozen? ⟨PB, k, none⟩ = false := fun k => (frozen_block gb).trans (pf k)
    have pb := gb.trans pb
    have ps : PB < y1.heap.size := Nat.lt_of_lt_of_le ps hg1.size
    have kB : Kept w6 y1 := Below.grown kA hg1 kA.size (fun k hk => (by cases hk))
    obtain ⟨B1, b1c, rfl⟩ := (Row.of_own hown1).form
    refine hK.out _ _ kB (fun _ => ?_)
    clear hK K
    try simp only [Act.put, List.setIfInBounds_toArray, List.set_cons_zero, List.set_cons_succ]
    refine tree_call (by assumption) (by rfl) (fun K hK => ?_)
    refine wp_append_row _ (.tmp 58) (.tmp 60) 22 rfl w6.heap.size 41 i1 (.agg #[.int .i64 0, .int .i64 0, .int .i64 0, .int .i64 0, .int .i64 0]) 5 40 Try.underlying22 hi' hz0' hz1' HZ2'.out rfl (by omega) _ (N + 1) (codeCells p.code) rfl hown1 _ _ q.code.length _ rfl (HSx.out _ kB) (codeCells_oneM _) (by unfold maxLen; omega) (by omega) kB.size ?_
    intro v2 y2 hown2 hg2
    rw [← codeCells_append] at hown2
    have gb := hg2.block PB ps (fun e => own_ne_box hown1 pb (by decide) e.symm)
    have p0 := (World.cell?_of_block (a := ⟨PB, 0, none⟩) gb).trans p0
    have p1 := (World.cell?_of_block (a := ⟨PB, 1, none⟩) gb).trans p1
    have p2 := (World.cell?_of_block (a := ⟨PB, 2, none⟩) gb).trans p2
    have pf : ∀ k, y2.frozen? ⟨PB, k, none⟩ = false := fun k => (frozen_block gb).trans (pf k)
    have pb := gb.trans pb
    have ps : PB < y2.heap.size := Nat.lt_of_lt_of_le ps hg2.size
    have kD : Kept w6 y2 := Below.grown kB hg2 kB.size (fun k hk => (hown1.lt k hk).1)
    obtain ⟨B2, b2c, rfl⟩ := (Row.of_own hown2).form
    have hne := own_ne_box hown2 pb (by decide)
    have hs9 := ps
    refine hK.out _ _ kD (fun _ => ?_)
    clear hK K
    try simp only [Act.put, List.setIfInBounds_toArray, List.set_cons_zero, List.set_cons_succ]
    have pf0 := pf 0
    have pf1 := pf 1
    have pf2 := pf 2
    clear pf
    (refine tree_take (v := ?_) (by assumption) (by rfl) ?_ ?_; rotate_left; (intro x hx; (try dsimp only at hx); go_simp; try (with_reducible rfl)); (try simp only [Act.put, List.setIfInBounds_toArray, List.set_cons_zero, List.set_cons_succ]))
    refine tree_call (by assumption) (by rfl) (fun K hK => ?_)
    go_simp
    have kY : Kept w6 (((y2.setCell ⟨PB, 0, none⟩ (.slice B2 (N + 1 + q.code.length) b2c)).setCell ⟨PB, 1, none⟩ (.int .i64 p.size)).setCell ⟨PB, 2, none⟩ (.slice D p.data.length d)) := ((Kept.set kD (by omega) _).set (by omega) _).set (by omega) _
    refine hK.out _ _ kY (fun _ => ?_)
    clear hK K
    try simp only [Act.put, List.setIfInBounds_toArray, List.set_cons_zero, List.set_cons_succ]
    refine tree_done ?_
    have x0 : ((((y2.setCell ⟨PB, 0, none⟩ (.slice B2 (N + 1 + q.code.length) b2c)).setCell ⟨PB, 1, none⟩ (.int .i64 p.size)).setCell ⟨PB, 2, none⟩ (.slice D p.data.length d))).cell? ⟨PB, 0, none⟩ = some (.slice B2 (N + 1 + q.code.length) b2c) := by go_simp
    have x1 : ((((y2.setCell ⟨PB, 0, none⟩ (.slice B2 (N + 1 + q.code.length) b2c)).setCell ⟨PB, 1, none⟩ (.int .i64 p.size)).setCell ⟨PB, 2, none⟩ (.slice D p.data.length d))).cell? ⟨PB, 1, none⟩ = some (.int .i64 p.size) := by go_simp
    have x2 : ((((y2.setCell ⟨PB, 0, none⟩ (.slice B2 (N + 1 + q.code.length) b2c)).setCell ⟨PB, 1, none⟩ (.int .i64 p.size)).setCell ⟨PB, 2, none⟩ (.slice D p.data.length d))).cell? ⟨PB, 2, none⟩ = some (.slice D p.data.length d) := by go_simp
    have hPB : PB < ((((y2.setCell ⟨PB, 0, none⟩ (.slice B2 (N + 1 + q.code.length) b2c)).setCell ⟨PB, 1, none⟩ (.int .i64 p.size)).setCell ⟨PB, 2, none⟩ (.slice D p.data.length d))).heap.size := by simpa using hs9
    have ownY : ((((y2.setCell ⟨PB, 0, none⟩ (.slice B2 (N + 1 + q.code.length) b2c)).setCell ⟨PB, 1, none⟩ (.int .i64 p.size)).setCell ⟨PB, 2, none⟩ (.slice D p.data.length d))).ownsRow w6.heap.size 41 5 (.slice B2 (N + 1 + q.code.length) b2c) (N + 1 + q.code.length) (codeCells (p.code ++ q.code)) := ownsRow_setCell_other (ownsRow_setCell_other (ownsRow_setCell_other hown2 hne _) hne _) hne _
    generalize ((((y2.setCell ⟨PB, 0, none⟩ (.slice B2 (N + 1 + q.code.length) b2c)).setCell ⟨PB, 1, none⟩ (.int .i64 p.size)).setCell ⟨PB, 2, none⟩ (.slice D p.data.length d))) = Y at *
    generalize PB = PB at *
    clear c0 c1 c2 e0 kk hRP HRx HSx
    have kYW : Kept W Y := k6.trans kY
    have R6Y := Lib.hid (kY.row R6.out)
    have hCB := HCB.out Y B2 b2c (by rw [HPQ.out]; exact Row.of_own ownY)
    rw [HPQ.out] at hCB
    have HCBx := Lib.hid hCB
    clear hCB ownY
    go_wp2_with fail
    refine HCBx.out.mono ?_; rintro e w7 ⟨v7, rfl, own7, hb7⟩
    rw [show cutR (p.code ++ q.code) p.size p.data.length = cutZ (p.code ++ q.code) by unfold cutR; rw [if_pos (two_right HRP.out HRQ.out T.out (by have := HPN.out; have := HQN.out; have := HN.out; omega))], cutZ_len, two_len T.out] at own7
    have k7 := kYW.to hb7
    obtain ⟨gb, cb, rfl, _, hgzb⟩ := own_form own7 (by omega)
    have R7 := Lib.hid (Row.of_own own7)
    have R67 := Lib.hid ((R6Y.out.below hb7).more hb7.size)
    have e0 := E0.out _ k7
    have e1 := E1.out _ k7
    have e2 := E2.out _ k7
    have HCQx := Lib.hid (HCQ.out _ k7)
    clear hb7 own7 x0 x1 x2
    go_wp2_with fail
    refine HCQx.out.mono ?_; rintro e w8 ⟨v8, rfl, own8, hb8⟩
    rw [show cutR q.code q.size q.data.length = cutZ q.code by unfold cutR; rw [if_pos HRQ.out], cutZ_len] at own8
    have k8 := k7.to hb8
    obtain ⟨gq, cq', rfl, _, hgzq⟩ := own_form own8 (by omega)
    have HBQ := Lib.hid (fun (x : World) (h : Kept w8 x) (k : Nat) (hk : k < (leadsZ q.code).length) => blk_cellsM (h.row (Row.of_own own8)) (cutZ_get hk))
    have HBB := Lib.hid (fun (x : World) (h : Kept w8 x) (k : Nat) (hk : k < (leadsZ p.code).length + (leadsZ q.code).length) => blk_cellsM (h.row ((R7.out.below hb8).more hb8.size)) (cutZ_get (by rw [two_len T.out]; exact hk)))
    have HBA := Lib.hid (fun (x : World) (h : Kept w8 x) (k : Nat) (hk : k < (leadsZ p.code).length) => blk_cellsM (h.row ((R67.out.below hb8).more hb8.size)) (cutZ_get hk))
    have hz1 : ga < w8.heap.size := by have := hb8.size; have := k7.size; have := kY.size; omega
    have hz2 : gb < w8.heap.size := by have := hb8.size; omega
    have HBL := Lib.hid (fun (k : Nat) (hk : k < (leadsZ p.code).length) => blk_left T.out hk)
    have HBR := Lib.hid (fun (k : Nat) (hk : k < (leadsZ q.code).length) => blk_right T.out hk)
    have HBG := Lib.hid (fun (k : Nat) (hk : k < (leadsZ q.code).length) => blk_range (l := q.code) hk)
    rw [HN.out] at HBR
    have hla : (leadsZ p.code).length ≤ 60 := by have := leads_leM p.code; have := HPN.out; have := HN.out; omega
    have hlb : (leadsZ q.code).length ≤ 60 := by have := leads_leM q.code; have := HQN.out; omega
    have HQN2 := Lib.hid HQN.out
    clear hb8 own8 R7 R67 R6Y HCQx HCBx e0 e1 e2
    generalize hLA : (leadsZ p.code).length = LA at *
    generalize hLQ : (leadsZ q.code).length = LQ at *
    clear hLA hLQ
    have hbl : ((LA : Int) + LQ != LA + LQ) = false := by simp
    go_wp2_with fail
    go_loopw [10] (fun a wr => ∃ k : Nat, k ≤ LA + LQ ∧ a = .int .i64 k ∧ Kept w8 wr) (fun a _ => LA + LQ - (intOf a).toNat)
    case atStart => exact ⟨0, Nat.zero_le _, rfl, Kept.refl _⟩
    case round =>
      obtain ⟨k, hkK, rfl, hk⟩ := hrel
      have c0 := C0.out _ (k8.trans hk)
      have hwz := hk.size
      have hga : ga < wr.heap.size := by omega
      have hgb : gb < wr.heap.size := by omega
      have hgq : gq < wr.heap.size := by omega
      have hww : w.heap.size < wr.heap.size := by have := (k8.trans hk).size; omega
      by_cases hlt : k < LA + LQ
      · obtain ⟨z0, z1, z2, z3, z4, z5⟩ := HBB.out _ hk k hlt
        have j0 : (0 : Int) ≤ k := by omega
        have j1 : (k : Int) < (LA : Int) + LQ := by omega
        by_cases hka : k < LA
        · rw [HBL.out k hka] at z0 z1 z2 z3
          obtain ⟨y0, y1, y2, y3, y4, y5⟩ := HBA.out _ hk k hka
          have j2 : (k : Int) < LA := by omega
          generalize blkZ p.code (leadsZ p.code) k = yb at *
          go_wp2_with fail
          go_roundw
          case rel => exact ⟨k + 1, by omega, by go_num, (hk.alloc _).alloc _⟩
          case measure => simp [intOf]; omega
        · obtain ⟨m, rfl⟩ : ∃ m, k = LA + m := ⟨k - LA, by omega⟩
          have hm : m < LQ := by omega
          rw [HBR.out m hm] at z0 z1 z2 z3
          obtain ⟨y0, y1, y2, y3, y4, y5⟩ := HBQ.out _ hk m hm
          obtain ⟨⟨g0, g1⟩, ⟨g2, g3⟩, ⟨g4, g5⟩, g6, g7⟩ := HBG.out m hm
          have hqn := HQN2.out
          have j2 : ¬ ((LA : Int) + m) < LA := by omega
          have m0 : (0 : Int) ≤ m := by omega
          have m1 : (m : Int) < LQ := by omega
          have SX := Lib.hid (fun x => shift2_any (blkZ q.code (leadsZ q.code) m).next LA x (by omega))
          have ST := Lib.hid (fun x => shift2_any (blkZ q.code (leadsZ q.code) m).taken LA x (by omega))
          have hpn := HPN.out
          have hj3 : (((LA + m : Nat) : Int)) - LA = m := by omega
          dsimp only at z0 z1 z2 z3
          rw [Int.natCast_add, Int.natCast_one] at z0 z1
          generalize blkZ q.code (leadsZ q.code) m = yb at *
          go_wp2_with fail
          go_quiet ((go_at_call 17; first | refine quiet_mine10 (SX.out _) | refine quiet_mine10 (ST.out _)))
          go_wp2_with fail
          go_roundw
          case rel => exact ⟨LA + m + 1, by omega, by go_num, ((hk.alloc _).alloc _).drewN _⟩
          case measure => simp [intOf]; omega
      · go_wp2_with fail
        go_ret
        exact ⟨rfl, HK.out _ (k8.trans hk)⟩
end Go.Proofs.Ytajiifplkfjnjaa.Words

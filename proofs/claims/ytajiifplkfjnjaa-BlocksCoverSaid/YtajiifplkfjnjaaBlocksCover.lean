/- The walk of law 10's BlocksCover. -/
import Derived.Test.YtajiifplkfjnjaaBlkAlive
import Derived.Test.YtajiifplkfjnjaaImageHelp
import Derived.Test.YtajiifplkfjnjaaBlkCovMath
import Derived.Test.YtajiifplkfjnjaaRefRight
import Derived.Test.YtajiifplkfjnjaaBlkRefLeads
namespace Go.Proofs.Ytajiifplkfjnjaa.Words
set_option maxRecDepth 100000
open Go.RowKit
set_option linter.unusedVariables false

theorem few_partsC {n m : Nat} (h : fewB n m = true) : n ≤ 200 ∧ m ≤ 500 := of_decide_eq_true h
/-- The cells of one block of a row. -/
theorem blk_cells {w : World} {B n c g : Nat} {l : List Blk} (h : Row w B 6 (.slice (some ⟨g, 0, none⟩) n c) n (flat blkL l)) {k : Nat} {b : Blk} (hb : l[k]? = some b) :
    w.cell? ⟨g, k * 6, none⟩ = some (.int .i64 b.from_) ∧ w.cell? ⟨g, k * 6 + 1, none⟩ = some (.int .i64 b.to) ∧ w.cell? ⟨g, k * 6 + 2, none⟩ = some (.int .i64 b.next) ∧ w.cell? ⟨g, k * 6 + 3, none⟩ = some (.int .i64 b.taken) ∧ w.cell? ⟨g, k * 6 + 4, none⟩ = some (.slice none 0 0) ∧ w.cell? ⟨g, k * 6 + 5, none⟩ = some (.slice none 0 0) := by
  have q : ∀ j u, j < 6 → (blkL b)[j]? = some u → w.cell? ⟨g, k * 6 + j, none⟩ = some u := fun j u hj hu => by
    have := h.flat_cell blkL_len hb hj hu
    rwa [Nat.zero_add] at this
  exact ⟨q 0 _ (by omega) rfl, q 1 _ (by omega) rfl, q 2 _ (by omega) rfl, q 3 _ (by omega) rfl, q 4 _ (by omega) rfl, q 5 _ (by omega) rfl⟩

set_option maxHeartbeats 4000000 in
theorem blocksCover_walk (A : Option Addr) (c : Nat) (D : Option Addr) (d : Nat) (p : Prog) (w : World) (hf : p.Fits) (hp : ProgV w w.heap.size (.slice A p.code.length c) (.slice D p.data.length d) p) :
    Calls Try.prog 4 #[.agg #[.slice A p.code.length c, .int .i64 p.size, .slice D p.data.length d]] w fun e w' => e = .returned (.bool true) ∧ Below w.heap.size w w' := by
  obtain ⟨u1, u2⟩ := hp.code.cap
  obtain ⟨u3, u4⟩ := hp.data.cap
  have HK := Lib.hid (fun (x : World) (h : Kept (w.alloc (.cells #[.slice A p.code.length c, .int .i64 p.size, .slice D p.data.length d] 25)) x) => ((Below.refl w.heap.size w).alloc (Nat.le_refl _) _).trans (h.mono (by simp)))
  have hB : w.heap.size < (w.alloc (.cells #[.slice A p.code.length c, .int .i64 p.size, .slice D p.data.length d] 25)).heap.size := by simp
  have HR := Lib.hid ((hp.code.alloc (Nat.le_refl _) (.cells #[.slice A p.code.length c, .int .i64 p.size, .slice D p.data.length d] 25)).more (Nat.le_of_lt hB))
  have c0 : (w.alloc (.cells #[.slice A p.code.length c, .int .i64 p.size, .slice D p.data.length d] 25)).cell? ⟨w.heap.size, 0, none⟩ = some (.slice A p.code.length c) := by go_simp
  have c1 : (w.alloc (.cells #[.slice A p.code.length c, .int .i64 p.size, .slice D p.data.length d] 25)).cell? ⟨w.heap.size, 1, none⟩ = some (.int .i64 p.size) := by go_simp
  have c2 : (w.alloc (.cells #[.slice A p.code.length c, .int .i64 p.size, .slice D p.data.length d] 25)).cell? ⟨w.heap.size, 2, none⟩ = some (.slice D p.data.length d) := by go_simp
  clear hp
  go_enter Try.func4, Try.ntmps4
  go_wp2_with fail
  generalize w.alloc (.cells #[.slice A p.code.length c, .int .i64 p.size, .slice D p.data.length d] 25) = W at *
  have C0 := Lib.hid (fun (x : World) (h : Kept W x) => h.cell hB c0)
  have C1 := Lib.hid (fun (x : World) (h : Kept W x) => h.cell hB c1)
  have C2 := Lib.hid (fun (x : World) (h : Kept W x) => h.cell hB c2)
  clear c0 c1 c2
  have k0 := Kept.refl W
  refine (alive10_any _).mono ?_; rintro e w1 ⟨rfl, hb1⟩
  have k1 := k0.to hb1
  have c0 := C0.out _ k1
  have c1 := C1.out _ k1
  have c2 := C2.out _ k1
  clear hb1 k0
  go_wp2_with fail
  refine (few_any A D p.code.length c p.data.length d p.size _ (by omega) (by omega)).mono ?_; rintro e w2 ⟨rfl, hb2⟩
  have k2 := k1.to hb2
  have c0 := C0.out _ k2
  have c1 := C1.out _ k2
  have c2 := C2.out _ k2
  clear hb2 k1
  cases hfew : fewB p.code.length p.data.length
  · go_wp2_with fail
    go_ret
    exact ⟨rfl, HK.out _ k2⟩
  obtain ⟨f1, f2⟩ := few_partsC hfew
  clear hfew
  go_wp2_with fail
  refine (refRight_any A c p.size D p.data.length d p.code _ (k2.row HR.out) (by omega) (by omega)).mono ?_; rintro e w3 ⟨rfl, hb3⟩
  have k3 := k2.to hb3
  have c0 := C0.out _ k3
  have c1 := C1.out _ k3
  have c2 := C2.out _ k3
  clear hb3 k2
  cases hri : rightZ p.code p.size p.data.length
  · go_wp2_with fail
    go_ret
    exact ⟨rfl, HK.out _ k3⟩
  obtain ⟨⟨n0, n1⟩, hto⟩ := rightZ_parts hri
  go_wp2_with fail
  refine (blkCut_any A c p.size D p.data.length d p.code _ (k3.row HR.out) (by omega) (by omega)).mono ?_; rintro e w6 ⟨v6, rfl, own6, hb6⟩
  rw [show cutR p.code p.size p.data.length = cutZ p.code by unfold cutR; rw [if_pos hri], cutZ_len] at own6
  have k6 := k3.to hb6
  obtain ⟨hK0, hL0⟩ := leads_first (l := p.code) (by omega)
  obtain ⟨g, cp, rfl, _, hgz⟩ := own_form own6 (by omega)
  have R6 := Lib.hid (Row.of_own own6)
  have hKl : (leadsZ p.code).length ≤ p.code.length := by rw [← leadsTo_all (Nat.le_refl _)]; exact leadsTo_le _ _ _
  clear hb6 k3 own6 c0 c1 c2 hri
  obtain ⟨b, off, rfl, hbb, _⟩ := HR.out.at_ (by omega)
  have HC := Lib.hid (fun (x : World) (h : Kept W x) (k : Nat) (i : Ins) (hi : p.code[k]? = some i) => (h.row HR.out).ins hi)
  have HTG := Lib.hid (fun (x : World) (h : Kept W x) (k : Nat) (i : Ins) (hi : p.code[k]? = some i) => refTarget_any b off c k p.size (.slice D p.data.length d) p.code i x (h.row HR.out) hi (by omega))
  have HBC := Lib.hid (fun (x : World) (h : Kept w6 x) (k : Nat) (hk : k < (leadsZ p.code).length) => blk_cells (h.row R6.out) (cutZ_get hk))
  have HT := Lib.hid (fun (j : Nat) (i : Ins) (h : p.code[j]? = some i) (hj : isJump i = true) => (by have := target_in hto h hj; simpa using this : 0 ≤ (j : Int) + i.imm ∧ (j : Int) + i.imm < p.code.length))
  have HA := Lib.hid (fun j h => at_some (l := p.code) (j := j) h)
  have HBT := Lib.hid (fun (k : Nat) (hk : k < (leadsZ p.code).length) => blkTo_range (n := p.code.length) (leads_sorted p.code) (fun x hx => (mem_leads.1 hx).1) hk)
  have HIN := Lib.hid (fun (k : Nat) (hk : k < (leadsZ p.code).length) (j : Nat) (i : Ins) (h1 : (leadsZ p.code).getD k 0 ≤ j) (h2 : j + 1 < blkToZ (leadsZ p.code) p.code.length k) (hi : p.code[j]? = some i) => end_inside hk h1 h2 hi)
  have HTK := Lib.hid (fun (j T : Nat) (i : Ins) (hi : p.code[j]? = some i) (hj : isJump i = true) (hT : (j : Int) + i.imm = T) (hn : T < p.code.length) => taken_at hi hj hT hn)
  have HNX := Lib.hid (fun (k : Nat) (hk : k < (leadsZ p.code).length) => blk_next (l := p.code) hk)
  have HTV := Lib.hid (fun (k : Nat) => (show (blkZ p.code (leadsZ p.code) k).taken = if isJump (insAtZ p.code (blkToZ (leadsZ p.code) p.code.length k - 1)) = true then numZ (leadsZ p.code) ((blkToZ (leadsZ p.code) p.code.length k : Nat) - 1 + (insAtZ p.code (blkToZ (leadsZ p.code) p.code.length k - 1)).imm) else -1 from rfl))
  have HIA := Lib.hid (fun (j : Nat) (i : Ins) (h : p.code[j]? = some i) => (show insAtZ p.code j = i by unfold insAtZ; rw [List.getD_eq_getElem?_getD, h]; rfl))
  have HFT := Lib.hid (fun (k : Nat) (hk : k < (leadsZ p.code).length) => (⟨rfl, rfl, atB_lt hk⟩ : (blkZ p.code (leadsZ p.code) k).from_ = ((leadsZ p.code).getD k 0 : Nat) ∧ (blkZ p.code (leadsZ p.code) k).to = (atB (leadsZ p.code) p.code.length (k + 1) : Nat) ∧ atB (leadsZ p.code) p.code.length k = (leadsZ p.code).getD k 0))
  have HEND := Lib.hid (atB_end (L := leadsZ p.code) (n := p.code.length))
  have HZ := Lib.hid (show atB (leadsZ p.code) p.code.length 0 = 0 by rw [atB_lt hK0, hL0])
  have HTB := Lib.hid (fun k => atB_to (leadsZ p.code) p.code.length k)
  clear hto HR R6 hL0
  generalize leadsZ p.code = L at *
  generalize hK : L.length = K at *
  generalize hn : p.code.length = n at *
  clear hK hn
  go_wp2_with fail
  go_loopw [5, 6] (fun a i wr => ∃ k : Nat, k ≤ K ∧ a = .int .i64 (atB L n k) ∧ i = .int .i64 k ∧ Kept w6 wr) (fun _ i _ => K - (intOf i).toNat)
  case atStart => exact ⟨0, Nat.zero_le _, by rw [HZ.out]; rfl, rfl, Kept.refl _⟩
  case round =>
    obtain ⟨k, hkK, rfl, rfl, hk⟩ := hrel
    have hkW := k6.trans hk
    have c0 := C0.out _ hkW
    by_cases hlt : k < K
    · obtain ⟨z0, z1, z2, z3, z4, z5⟩ := HBC.out _ hk k hlt
      obtain ⟨e1, e2, e3⟩ := HFT.out k hlt
      obtain ⟨r0, r1⟩ := HBT.out k hlt
      have HN9 := HNX.out k hlt
      have HTVk := Lib.hid (HTV.out k)
      have HINk := Lib.hid (HIN.out k hlt)
      rw [HTB.out] at HTVk HINk r0 r1
      rw [e1] at z0
      rw [e2] at z1
      rw [e3]
      generalize hFR : L.getD k 0 = FR at *
      generalize hTO : atB L n (k + 1) = TO at *
      have HTO := Lib.hid hTO
      generalize (blkZ p.code L k).next = NX at *
      generalize hTK : (blkZ p.code L k).taken = TK at *
      have HTK2 := Lib.hid HTVk.out
      clear HTVk hFR hTO e1 e2 e3
      have j0 : (0 : Int) ≤ k := by omega
      have j1 : (k : Int) < K := by omega
      have hcc : (FR : Int) < TO := by omega
      have hcn : (TO : Int) ≤ n := by omega
      have hbn : ((FR : Int) != FR) = false := by simp
      have hd1 : decide (TO ≤ FR) = false := by simp; omega
      have hd2 : decide (n < TO) = false := by simp; omega
      have hgz1 : g < wr.heap.size := by have := hk.size; omega
      have hwz1 : w.heap.size < wr.heap.size := by have := hkW.size; omega
      have q1 := hk.alloc (.cells #[.int .i64 FR, .int .i64 TO, .int .i64 NX, .int .i64 TK, .slice none 0 0, .slice none 0 0] 38)
      have qb : wr.heap.size < (wr.alloc (.cells #[.int .i64 FR, .int .i64 TO, .int .i64 NX, .int .i64 TK, .slice none 0 0, .slice none 0 0] 38)).heap.size := by simp
      have b0 : (wr.alloc (.cells #[.int .i64 FR, .int .i64 TO, .int .i64 NX, .int .i64 TK, .slice none 0 0, .slice none 0 0] 38)).cell? ⟨wr.heap.size, 0, none⟩ = some (.int .i64 FR) := by go_simp
      have b1 : (wr.alloc (.cells #[.int .i64 FR, .int .i64 TO, .int .i64 NX, .int .i64 TK, .slice none 0 0, .slice none 0 0] 38)).cell? ⟨wr.heap.size, 1, none⟩ = some (.int .i64 TO) := by go_simp
      have b2 : (wr.alloc (.cells #[.int .i64 FR, .int .i64 TO, .int .i64 NX, .int .i64 TK, .slice none 0 0, .slice none 0 0] 38)).cell? ⟨wr.heap.size, 2, none⟩ = some (.int .i64 NX) := by go_simp
      have b3 : (wr.alloc (.cells #[.int .i64 FR, .int .i64 TO, .int .i64 NX, .int .i64 TK, .slice none 0 0, .slice none 0 0] 38)).cell? ⟨wr.heap.size, 3, none⟩ = some (.int .i64 TK) := by go_simp
      have B0 := Lib.hid b0
      have B1 := Lib.hid b1
      have B2 := Lib.hid b2
      have B3 := Lib.hid b3
      have Q1 := Lib.hid q1
      have QB := Lib.hid qb
      clear b0 b1 b2 b3 q1 qb
      go_wp2_with fail
      have b0 := B0.out
      have b1 := B1.out
      have b2 := B2.out
      have b3 := B3.out
      have q1 := Q1.out
      have qb := QB.out
      clear B0 B1 B2 B3 Q1 QB z0 z1 z2 z3 z4 z5 c0
      generalize wr.alloc (.cells #[.int .i64 FR, .int .i64 TO, .int .i64 NX, .int .i64 TK, .slice none 0 0, .slice none 0 0] 38) = Y at *
      generalize wr.heap.size = Q at *
      have B1 := Lib.hid (fun (x : World) (h : Kept Y x) => h.cell qb b1)
      have B2 := Lib.hid (fun (x : World) (h : Kept Y x) => h.cell qb b2)
      have B3 := Lib.hid (fun (x : World) (h : Kept Y x) => h.cell qb b3)
      have hYW := k6.trans q1
      clear b0 b1 b2 b3
      go_loopw [8] (fun i wr => ∃ j : Nat, FR ≤ j ∧ j ≤ TO ∧ i = .int .i64 j ∧ Kept Y wr) (fun i _ => TO - (intOf i).toNat)
      case atStart => exact ⟨FR, Nat.le_refl _, by omega, rfl, Kept.refl _⟩
      case round =>
        obtain ⟨j, hj0, hj1, rfl, hy⟩ := hrel
        have b1 := B1.out _ hy
        by_cases hjT : j < TO
        · obtain ⟨i, hi⟩ := HA.out j (by omega)
          have hyW := hYW.trans hy
          obtain ⟨d0, d1, d2, d3, d4⟩ := HC.out _ hyW j i hi
          have c0 := C0.out _ hyW
          have c1 := C1.out _ hyW
          have c2 := C2.out _ hyW
          have m0 : (0 : Int) ≤ j := by omega
          have m1 : (j : Int) < n := by omega
          have m2 : (j : Int) < TO := by omega
          have HTGx := Lib.hid (HTG.out _ hyW j i hi)
          go_wp2_with fail
          refine (refForm_any _ _).mono ?_; rintro e y1 ⟨rfl, rfl⟩
          go_wp2_with fail
          refine HTGx.out.mono ?_; rintro e y2 ⟨rfl, hby⟩
          have hy2 := hy.to hby
          have b1 := B1.out _ hy2
          have b3 := B3.out _ hy2
          clear hby d0 d1 d2 d3 d4 c0 c1 c2
          by_cases hjE : j + 1 < TO
          · have he := HINk.out j i hj0 hjE hi
            have hf6 : ¬ 6 ≤ formZ i.op := by have := end_form he; omega
            rw [targetZ_no (n := n) (k := j) (.inl (jump_end he))]
            have m3 : (j : Int) + 1 < TO := by omega
            clear he hi
            generalize formZ i.op = f at *
            go_wp2_with fail
            go_roundw
            case rel => first | exact ⟨j + 1, by omega, by omega, by go_num, hy2⟩ | exact ⟨j + 1, by omega, by omega, by omega⟩ | (refine ⟨_, _, _, _, _, _, _, _, _, _, _, _, _, _, _, _, _, _, _, _, _, _, _, _, _, _, _, _, _, _, _, _, _, _, _, _, _, _, _, _, _, _, _, _, _, _, _, _, _, _, _, _, _, ⟨j + 1, by omega, by omega, ?_, hy2⟩, rfl⟩; go_num)
            case measure => simp [intOf]; omega
          · have hjt : TO - 1 = j := by omega
            have HV := HTK2.out
            rw [hjt, HIA.out j i hi, show ((TO : Nat) : Int) - 1 = (j : Int) by omega] at HV
            have m3 : ¬ (j : Int) + 1 < TO := by omega
            cases hju : isJump i
            · rw [targetZ_no (n := n) (k := j) (.inl hju)]
              clear HV hi
              generalize formZ i.op = f at *
              go_wp2_with fail
              go_roundw
              case rel => first | exact ⟨j + 1, by omega, by omega, by go_num, hy2⟩ | exact ⟨j + 1, by omega, by omega, by omega⟩ | (refine ⟨_, _, _, _, _, _, _, _, _, _, _, _, _, _, _, _, _, _, _, _, _, _, _, _, _, _, _, _, _, _, _, _, _, _, _, _, _, _, _, _, _, _, _, _, _, _, _, _, _, _, _, _, _, ⟨j + 1, by omega, by omega, ?_, hy2⟩, rfl⟩; go_num)
              case measure => simp [intOf]; omega
            · obtain ⟨t0, t1⟩ := HT.out j i hi hju
              obtain ⟨T, hT⟩ : ∃ T : Nat, (j : Int) + i.imm = T := ⟨((j : Int) + i.imm).toNat, by omega⟩
              obtain ⟨q, hqK, hqT, hqN⟩ := HTK.out j T i hi hju hT (by omega)
              rw [if_pos hju, hT, hqN] at HV
              rw [targetZ_jump hju t0 t1 (by omega) (by omega), hT]
              rw [HV] at b3
              obtain ⟨z0, _⟩ := HBC.out _ (q1.trans hy2) q hqK
              rw [(HFT.out q hqK).1, hqT] at z0
              have q0 : (0 : Int) ≤ q := by omega
              have q2 : (q : Int) < K := by omega
              have T0 : (0 : Int) ≤ T := by omega
              have hbT : ((T : Int) != T) = false := by simp
              clear HV hi hT t0 t1 hqT hqN
              generalize formZ i.op = f at *
              go_wp2_with fail
              go_roundw
              case rel => first | exact ⟨j + 1, by omega, by omega, by go_num, hy2⟩ | exact ⟨j + 1, by omega, by omega, by omega⟩ | (refine ⟨_, _, _, _, _, _, _, _, _, _, _, _, _, _, _, _, _, _, _, _, _, _, _, _, _, _, _, _, _, _, _, _, _, _, _, _, _, _, _, _, _, _, _, _, _, _, _, _, _, _, _, _, _, ⟨j + 1, by omega, by omega, ?_, hy2⟩, rfl⟩; go_num)
              case measure => simp [intOf]; omega
        · have hjT2 : j = TO := by omega
          have b2 := B2.out _ hy
          rcases HN9 with h9 | ⟨h9, h10⟩
          · subst h9
            go_wp2_with fail
            go_roundw
            case rel => exact ⟨k + 1, by omega, by rw [HTO.out], by go_num, q1.trans hy⟩
            case measure => simp [intOf]; omega
          · subst h9
            have q2 : (k : Int) + 1 < K := by omega
            have q3 : (0 : Int) ≤ (k : Int) + 1 := by omega
            go_wp2_with fail
            go_roundw
            case rel => exact ⟨k + 1, by omega, by rw [HTO.out], by go_num, q1.trans hy⟩
            case measure => simp [intOf]; omega
    · have hkE : k = K := by omega
      subst hkE
      have hE := HEND.out
      rw [hE]
      go_wp2_with fail
      go_ret
      exact ⟨rfl, HK.out _ hkW⟩
end Go.Proofs.Ytajiifplkfjnjaa.Words

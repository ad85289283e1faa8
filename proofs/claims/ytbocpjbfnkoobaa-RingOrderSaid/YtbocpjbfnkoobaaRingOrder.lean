/- 'RingOrder': what goes in comes out, in order, none lost, none twice, and as many go in as there is room. -/
import Derived.Test.YtbocpjbfnkoobaaWordsSame
import Derived.Test.YtbocpjbfnkoobaaRegEx
import Derived.Test.YtbocpjbfnkoobaaLin
namespace Go.Proofs.Ytbocpjbfnkoobaa.Words
set_option maxRecDepth 100000
open Go.RowKit
set_option linter.unusedVariables false
set_option linter.unusedSimpArgs false

theorem row_front1 {w : World} {B n c k : Nat} {A : Option Addr} {l : List Int} (h : Row w B 1 (.slice A n c) n (w32 l)) (hk : k ≤ n) : Row w B 1 (.slice A k c) k (w32 (l.take k)) := by
  obtain ⟨h0, A', c', h1, h2, h3, h4, h5⟩ := h
  injection h1 with e1 _ e2
  subst e1 e2
  rw [w32_len] at h0
  refine ⟨by rw [w32_len, List.length_take]; omega, _, _, rfl, by omega, h3, h4, fun hn => ?_⟩
  obtain ⟨g, o, e, hb, hc⟩ := h5 (by omega)
  refine ⟨g, o, e, hb, fun j u hu => hc j u ?_⟩
  unfold w32 at hu ⊢
  rw [List.map_take, List.getElem?_take] at hu
  split at hu
  · exact hu
  · cases hu
/-- What stands in a round: o is out, q is in the queue, of z the first c have gone in. -/
structure OrdR (w : World) (b m c : Nat) (z o q : List Int) (v : Value) (X : World) : Prop where
  rg : Rg X b m q
  ow : X.ownsRow (b + 1) 30 1 v o.length (w32 o)
  bl : Below w.heap.size w X
  eq : o ++ q = z.take c
  le : c ≤ z.length
section
variable {w X Y : World} {b m c : Nat} {z o q : List Int} {v : Value} {t : Int}
theorem OrdR.sum (h : OrdR w b m c z o q v X) : o.length + q.length = c := by
  have h1 := congrArg List.length h.eq
  have h2 := h.le
  simp at h1; omega
theorem OrdR.below (h : OrdR w b m c z o q v X) (hb : Below X.heap.size X Y) : OrdR w b m c z o q v Y :=
  ⟨h.rg.below hb h.rg.lt, own_below h.ow hb, on_below h.bl hb, h.eq, h.le⟩
theorem OrdR.keep (h : OrdR w b m c z o q v X) (hw : w.heap.size ≤ b) (hk : KeepS (fun j => j = b) X Y) {q' o' : List Int} (hr : Rg Y b m q') : Rg Y b m q' ∧ Y.ownsRow (b + 1) 30 1 v o.length (w32 o) ∧ Below w.heap.size w Y :=
  ⟨hr, own_keepS h.ow hk (fun g hg e => by have := (h.ow.lt g hg).1; omega), on_keep h.bl hk hw⟩
theorem OrdR.push (h : OrdR w b m c z o q v X) (hw : w.heap.size ≤ b) (hk : KeepS (fun j => j = b) X Y) (hc : c < z.length) (hr : Rg Y b m (q ++ [z.getD c 0])) : OrdR w b m (c + 1) z o (q ++ [z.getD c 0]) v Y := by
  obtain ⟨h1, h2, h3⟩ := h.keep hw hk (o' := o) hr
  exact ⟨h1, h2, h3, by rw [← List.append_assoc, h.eq, take_next hc], hc⟩
theorem OrdR.stay (h : OrdR w b m c z o q v X) (hw : w.heap.size ≤ b) (hk : KeepS (fun j => j = b) X Y) (hr : Rg Y b m q) : OrdR w b m c z o q v Y := by
  obtain ⟨h1, h2, h3⟩ := h.keep hw hk (o' := o) hr
  exact ⟨h1, h2, h3, h.eq, h.le⟩
/-- What was taken is out. -/
theorem ord_out {h : Int} {ol : Nat} {x5 w6 : World} {Ao A6 : Option Addr} {co c6 : Nat} (H : OrdR w b m c z o (h :: q) (.slice Ao ol co) X) (hol : ol = o.length)
    (hr : Rg (x5.alloc (.cells #[.int .u32 h] 30)) b m q) (hb : Below w.heap.size w (x5.alloc (.cells #[.int .u32 h] 30)))
    (hO : w6.ownsRow (b + 1) 30 1 (.slice A6 (ol + 1) c6) (ol + 1) (w32 o ++ w32 [h])) (hg : (x5.alloc (.cells #[.int .u32 h] 30)).grownBy w6 (Value.slice Ao ol co).ownBlock)
    (hlt : ∀ g, (Value.slice Ao ol co).ownBlock = some g → b + 1 ≤ g) (hw : w.heap.size ≤ b) : OrdR w b m c z (o ++ [h]) q (.slice A6 (ol + 1) c6) w6 := by
  refine ⟨?_, ?_, ?_, ?_, H.le⟩
  · obtain ⟨f, S, h1, h2⟩ := hr
    exact ⟨f, S, h1, h2.grown hg (fun e => by have := hlt b e.symm; omega)⟩
  · rw [List.length_append, ← hol]
    rw [w32_app] at hO
    exact hO
  · exact Below.grown hb hg hb.size (fun g hg => by have := hlt g hg; omega)
  · rw [List.append_assoc]; exact H.eq
end
set_option maxHeartbeats 4000000 in
theorem ringOrder_walk (a : Int) (v : Value) (n : Nat) (z : List Int) (u : Int) (w : World) (ha : -9223372036854775808 ≤ a ∧ a ≤ 9223372036854775807)
    (hr : Row w w.heap.size 1 v n (z.map (Value.int .u32))) (hz : ∀ x ∈ z, 0 ≤ x ∧ x ≤ 4294967295) (hu : -9223372036854775808 ≤ u ∧ u ≤ 9223372036854775807) :
    Calls Try.prog 4 #[.int .i64 a, v, .int .i64 u] w fun e w' => e = .returned (.bool true) ∧ Below w.heap.size w w' := by
  obtain ⟨i0, hi, hq0, hq1, hq2⟩ := parts_u32
  have HI := Lib.hid hi
  have HZ0 := Lib.hid hq0
  have HZ1 := Lib.hid hq1
  have HZ2 := Lib.hid hq2
  clear hi hq0 hq1 hq2
  obtain ⟨A, c, rfl⟩ := hr.form
  have HL : Hid (z.length = n) := by have h : z.length = n := by (have := hr.len; simpa using this)
                                     exact h
  have HR : Hid (Row w w.heap.size 1 (.slice A n c) n (w32 z)) := hr
  have u1 := hr.cap
  clear hr hz
  by_cases hA : a < 1 ∨ 64 < a ∨ 300 < n ∨ u < 1 ∨ 10 < u
  · have HA := Lib.hid hA
    clear hA
    go_enter Try.func4, Try.ntmps4
    go_wp2_with fail
    refine (alive15_any w).mono ?_
    rintro e w1 ⟨rfl, b1⟩
    have B1 := Lib.hid b1
    clear b1
    rcases HA.out with h1 | h1 | h1 | h1 | h1
    all_goals (by_cases g1 : a < 1 <;> by_cases g2 : 64 < a <;> by_cases g3 : (300 : Int) < n <;> by_cases g4 : u < 1 <;> by_cases g5 : 10 < u)
    all_goals (first | (exfalso; omega) | (go_wp2_with fail; go_ret; exact ⟨rfl, B1.out⟩))
  · obtain ⟨m, rfl⟩ : ∃ m : Nat, a = m := ⟨a.toNat, by omega⟩
    obtain ⟨s, rfl⟩ : ∃ s : Nat, u = s := ⟨u.toNat, by omega⟩
    go_enter Try.func4, Try.ntmps4
    go_wp2_with fail
    refine (alive15_any w).mono ?_
    rintro e w1 ⟨rfl, b1⟩
    have B1 := Lib.hid b1
    clear b1
    have k1 : ¬ (m : Int) < 1 := by omega
    have k2 : ¬ 64 < (m : Int) := by omega
    have k3 : ¬ (300 : Int) < n := by omega
    have k4 : ¬ (s : Int) < 1 := by omega
    have k5 : ¬ 10 < (s : Int) := by omega
    have k6 : (0 : Int) < s := by omega
    have k7 : n ≤ 300 := by omega
    have k8 : m ≤ 64 := by omega
    clear hA
    have HC := Lib.hid (show capQ m = m by unfold capQ; rw [if_neg k1, if_neg k2]; rfl)
    go_wp2_with fail
    refine (new_any m w1).mono ?_
    rintro e w2 ⟨rfl, r2, b2⟩
    rw [HC.out] at r2
    have R2 := Lib.hid r2
    have B2 := Lib.hid (on_below B1.out b2)
    have hbz := B1.out.size
    clear r2 b2
    obtain ⟨b, hb⟩ : ∃ b, b = w1.heap.size := ⟨_, rfl⟩
    rw [← hb] at R2 hbz ⊢
    clear hb
    have HBZ := Lib.hid hbz
    clear hbz
    go_wp2_with fail
    go_loopw [9, 10, 11] (fun vo vi vk wr => ∃ (kk ci : Nat) (o q : List Int), kk ≤ 700 ∧ vk = .int .i64 kk ∧ vi = .int .i64 ci ∧ OrdR w b m ci z o q vo wr) (fun _ _ vk _ => 700 - (intOf vk).toNat)
    case atStart => exact ⟨0, 0, [], [], Nat.zero_le _, rfl, rfl, ⟨R2.out, World.ownsRow_nil _ _ _ _, B2.out, by simp, Nat.zero_le _⟩⟩
    case round =>
      obtain ⟨kk, ci, o, q, hkk, rfl, rfl, hR⟩ := hrel
      have OR := Lib.hid hR
      obtain ⟨Ao, co, rfl⟩ := (Row.of_own hR.ow).form
      have hle := hR.le
      rw [HL.out] at hle
      clear hR
      by_cases hlt : kk < 700
      · have h0 : (0 : Int) ≤ kk := by omega
        have h1 : (kk : Int) < 700 := by omega
        obtain ⟨ol, hol⟩ : ∃ ol, ol = o.length := ⟨_, rfl⟩
        rw [← hol] at OR ⊢
        have HOL := Lib.hid hol
        clear hol
        by_cases hcn : ci < n
        · obtain ⟨g, off, rfl, hg, _⟩ := HR.out.at_ (by omega)
          have HCN := Lib.hid hcn
          have k20 : (0 : Int) ≤ ci := by omega
          have k21 : (ci : Int) < n := by omega
          obtain ⟨x, hx⟩ : ∃ x, x = z.getD ci 0 := ⟨_, rfl⟩
          have HD := Lib.hid (fun (X : World) (hX : Below w.heap.size w X) => (show X.cell? ⟨g, off + ci, none⟩ = some (.int .u32 x) by have q1 := (HR.out.below hX).cells _ rfl ci _ (w32_at (by rw [HL.out]; exact hcn)); rw [add_spot, ← hx] at q1; exact q1))
          have HX := Lib.hid hx
          clear hx
          cases hdiv : ((kk : Int) % (s : Int) == 0)
          · have dz := HD.out wr OR.out.bl
            have hs0 : (ol : Int) ≤ ci := by have := OR.out.sum; rw [← HOL.out] at this; omega
            go_wp2_with fail
            by_cases hg : (q).length < m
            · have HG := Lib.hid (goes_yes (m := m) (q := q) hg)
              have HP := Lib.hid (fun v => push_yes (m := m) (q := q) v hg)
              clear hg
              refine (push_any b m q x wr OR.out.rg).mono ?_
              rintro e y0 ⟨rfl, r0, k0⟩
              rw [HG.out]
              rw [HP.out, HX.out] at r0
              have OP := Lib.hid (OR.out.push HBZ.out k0 (by rw [HL.out]; exact HCN.out) r0)
              clear r0 k0
              have hsum := OP.out.sum
              simp only [List.length_append, List.length_cons, List.length_nil, List.length_singleton, ← HOL.out, Nat.zero_add] at hsum
              have hql := OP.out.rg.ql
              try simp only [List.length_append, List.length_cons, List.length_nil, List.length_singleton, Nat.zero_add] at hql
              obtain ⟨rm, hrm⟩ : ∃ rm, rm = m - ((q ++ [z.getD ci 0])).length := ⟨_, rfl⟩
              have HRM := Lib.hid hrm
              try simp only [List.length_append, List.length_cons, List.length_nil, List.length_singleton, Nat.zero_add] at hrm
              have hs1 : (ol : Int) ≤ ((ci : Int) + 1) := by omega
              have hs2 : ¬ (m : Int) < ((ci : Int) + 1) - (ol : Int) := by omega
              have hs3 : ((ci : Int) + 1) - (ol : Int) + (rm : Int) = m := by omega
              clear hrm hsum
              try clear hql
              go_wp2_with fail
              refine (room_any b m (q ++ [z.getD ci 0]) y0 OP.out.rg).mono ?_
              rintro e y1 ⟨rfl, b7⟩
              rw [← HRM.out]
              have OF := Lib.hid (OP.out.below b7)
              clear b7
              go_wp2_with fail
              go_roundw
              case rel => exact ⟨kk + 1, ci + 1, o, (q ++ [z.getD ci 0]), by omega, by go_num, by first | rfl | go_num, OF.out⟩
              case measure => simp [intOf]; omega
            · have HG := Lib.hid (goes_no (m := m) (q := q) hg)
              have HP := Lib.hid (fun v => push_no (m := m) (q := q) v hg)
              clear hg
              refine (push_any b m q x wr OR.out.rg).mono ?_
              rintro e y0 ⟨rfl, r0, k0⟩
              rw [HG.out]
              rw [HP.out] at r0
              have OP := Lib.hid (OR.out.stay HBZ.out k0 r0)
              clear r0 k0
              have hsum := OP.out.sum
              simp only [List.length_append, List.length_cons, List.length_nil, List.length_singleton, ← HOL.out, Nat.zero_add] at hsum
              have hql := OP.out.rg.ql
              try simp only [List.length_append, List.length_cons, List.length_nil, List.length_singleton, Nat.zero_add] at hql
              obtain ⟨rm, hrm⟩ : ∃ rm, rm = m - ((q)).length := ⟨_, rfl⟩
              have HRM := Lib.hid hrm
              try simp only [List.length_append, List.length_cons, List.length_nil, List.length_singleton, Nat.zero_add] at hrm
              have hs1 : (ol : Int) ≤ (ci : Int) := by omega
              have hs2 : ¬ (m : Int) < (ci : Int) - (ol : Int) := by omega
              have hs3 : (ci : Int) - (ol : Int) + (rm : Int) = m := by omega
              clear hrm hsum
              try clear hql
              go_wp2_with fail
              refine (room_any b m (q) y0 OP.out.rg).mono ?_
              rintro e y1 ⟨rfl, b7⟩
              rw [← HRM.out]
              have OF := Lib.hid (OP.out.below b7)
              clear b7
              go_wp2_with fail
              go_roundw
              case rel => exact ⟨kk + 1, ci, o, (q), by omega, by go_num, by first | rfl | go_num, OF.out⟩
              case measure => simp [intOf]; omega
          · go_wp2_with fail
            cases q with
            | nil =>
              refine (pop_any b m [] wr OR.out.rg).mono ?_
              rintro e x5 ⟨rfl, r5, k5⟩
              rw [show anyQ [] = false from rfl]
              have O5 := Lib.hid (OR.out.stay (q := []) HBZ.out k5 r5)
              clear r5 k5
              have dz := HD.out x5 O5.out.bl
              go_wp2_with fail
              by_cases hg : (([] : List Int)).length < m
              · have HG := Lib.hid (goes_yes (m := m) (q := ([] : List Int)) hg)
                have HP := Lib.hid (fun v => push_yes (m := m) (q := ([] : List Int)) v hg)
                clear hg
                refine (push_any b m ([] : List Int) x x5 O5.out.rg).mono ?_
                rintro e y0 ⟨rfl, r0, k0⟩
                rw [HG.out]
                rw [HP.out, HX.out] at r0
                have OP := Lib.hid (O5.out.push HBZ.out k0 (by rw [HL.out]; exact HCN.out) r0)
                clear r0 k0
                have hsum := OP.out.sum
                simp only [List.length_append, List.length_cons, List.length_nil, List.length_singleton, ← HOL.out, Nat.zero_add] at hsum
                have hql := OP.out.rg.ql
                try simp only [List.length_append, List.length_cons, List.length_nil, List.length_singleton, Nat.zero_add] at hql
                obtain ⟨rm, hrm⟩ : ∃ rm, rm = m - ((([] : List Int) ++ [z.getD ci 0])).length := ⟨_, rfl⟩
                have HRM := Lib.hid hrm
                try simp only [List.length_append, List.length_cons, List.length_nil, List.length_singleton, Nat.zero_add] at hrm
                have hs1 : (ol : Int) ≤ ((ci : Int) + 1) := by omega
                have hs2 : ¬ (m : Int) < ((ci : Int) + 1) - (ol : Int) := by omega
                have hs3 : ((ci : Int) + 1) - (ol : Int) + (rm : Int) = m := by omega
                clear hrm hsum
                try clear hql
                go_wp2_with fail
                refine (room_any b m (([] : List Int) ++ [z.getD ci 0]) y0 OP.out.rg).mono ?_
                rintro e y1 ⟨rfl, b7⟩
                rw [← HRM.out]
                have OF := Lib.hid (OP.out.below b7)
                clear b7
                go_wp2_with fail
                go_roundw
                case rel => exact ⟨kk + 1, ci + 1, o, (([] : List Int) ++ [z.getD ci 0]), by omega, by go_num, by first | rfl | go_num, OF.out⟩
                case measure => simp [intOf]; omega
              · have HG := Lib.hid (goes_no (m := m) (q := ([] : List Int)) hg)
                have HP := Lib.hid (fun v => push_no (m := m) (q := ([] : List Int)) v hg)
                clear hg
                refine (push_any b m ([] : List Int) x x5 O5.out.rg).mono ?_
                rintro e y0 ⟨rfl, r0, k0⟩
                rw [HG.out]
                rw [HP.out] at r0
                have OP := Lib.hid (O5.out.stay HBZ.out k0 r0)
                clear r0 k0
                have hsum := OP.out.sum
                simp only [List.length_append, List.length_cons, List.length_nil, List.length_singleton, ← HOL.out, Nat.zero_add] at hsum
                have hql := OP.out.rg.ql
                try simp only [List.length_append, List.length_cons, List.length_nil, List.length_singleton, Nat.zero_add] at hql
                obtain ⟨rm, hrm⟩ : ∃ rm, rm = m - ((([] : List Int))).length := ⟨_, rfl⟩
                have HRM := Lib.hid hrm
                try simp only [List.length_append, List.length_cons, List.length_nil, List.length_singleton, Nat.zero_add] at hrm
                have hs1 : (ol : Int) ≤ (ci : Int) := by omega
                have hs2 : ¬ (m : Int) < (ci : Int) - (ol : Int) := by omega
                have hs3 : (ci : Int) - (ol : Int) + (rm : Int) = m := by omega
                clear hrm hsum
                try clear hql
                go_wp2_with fail
                refine (room_any b m (([] : List Int)) y0 OP.out.rg).mono ?_
                rintro e y1 ⟨rfl, b7⟩
                rw [← HRM.out]
                have OF := Lib.hid (OP.out.below b7)
                clear b7
                go_wp2_with fail
                go_roundw
                case rel => exact ⟨kk + 1, ci, o, (([] : List Int)), by omega, by go_num, by first | rfl | go_num, OF.out⟩
                case measure => simp [intOf]; omega
            | cons h q =>
              refine (pop_any b m (h :: q) wr OR.out.rg).mono ?_
              rintro e x5 ⟨rfl, r5, k5⟩
              rw [show anyQ (h :: q) = true from rfl, show headQ (h :: q) = h from rfl]
              have hk5 := OR.out.keep (o' := o) HBZ.out k5 r5
              have HK5 := Lib.hid hk5
              have hok : ol ≤ 300 := by have := OR.out.sum; rw [← HOL.out] at this; omega
              clear r5 k5 hk5
              have HY1 := Lib.hid ((Below.refl x5.heap.size x5).alloc (Nat.le_refl _) (.cells #[.int .u32 h] 30))
              have HOA := Lib.hid (own_below HK5.out.2.1 HY1.out)
              have HBA := Lib.hid (HK5.out.2.2.alloc HK5.out.2.2.size (.cells #[.int .u32 h] 30))
              have HRA := Lib.hid (HK5.out.1.below HY1.out HK5.out.1.lt)
              have HON := Lib.hid (row_one1 x5 h 30)
              have HLT := Lib.hid (fun g hg => (HOA.out.lt g hg).1)
              have hbs : b < x5.heap.size := HK5.out.1.lt
              rw [← HOL.out] at HOA
              have hp1 : (ol : Int) + 1 ≤ ci := by have q1 := OR.out.sum; rw [← HOL.out] at q1; simp only [List.length_cons] at q1; omega
              have hp2 : ¬ (m : Int) < ci - ((ol : Int) + 1) := by have q1 := OR.out.sum; have q2 := OR.out.rg.ql; rw [← HOL.out] at q1; simp only [List.length_cons] at q1 q2; omega
              go_wp2_with (first
                | (refine wpList_append_new _ rfl (.tmp 57) (.tmp 59) 23 rfl (b + 1) 30 i0 _ 1 4 Try.underlying23 HI.out HZ0.out HZ1.out HZ2.out rfl (by omega) (.slice Ao ol co) ol (w32 o) rfl HOA.out _ (.slice (some ⟨x5.heap.size, 0, none⟩) 1 1) 1 (w32 [h]) rfl HON.out (w32_one _) (by unfold maxLen; omega) (by omega) (by simp; omega) ?_; intro v2 w6 hO hg hn2; obtain ⟨A6, c6, rfl⟩ := (Row.of_own hO).form; have O6 := Lib.hid (ord_out OR.out HOL.out HRA.out HBA.out hO hg HLT.out HBZ.out); clear hO hg hn2; have dz := HD.out w6 O6.out.bl))
              by_cases hg : (q).length < m
              · have HG := Lib.hid (goes_yes (m := m) (q := q) hg)
                have HP := Lib.hid (fun v => push_yes (m := m) (q := q) v hg)
                clear hg
                refine (push_any b m q x w6 O6.out.rg).mono ?_
                rintro e y0 ⟨rfl, r0, k0⟩
                rw [HG.out]
                rw [HP.out, HX.out] at r0
                have OP := Lib.hid (O6.out.push HBZ.out k0 (by rw [HL.out]; exact HCN.out) r0)
                clear r0 k0
                have hsum := OP.out.sum
                simp only [List.length_append, List.length_cons, List.length_nil, List.length_singleton, ← HOL.out, Nat.zero_add] at hsum
                have hql := OP.out.rg.ql
                try simp only [List.length_append, List.length_cons, List.length_nil, List.length_singleton, Nat.zero_add] at hql
                obtain ⟨rm, hrm⟩ : ∃ rm, rm = m - ((q ++ [z.getD ci 0])).length := ⟨_, rfl⟩
                have HRM := Lib.hid hrm
                try simp only [List.length_append, List.length_cons, List.length_nil, List.length_singleton, Nat.zero_add] at hrm
                have hs1 : ((ol : Int) + 1) ≤ ((ci : Int) + 1) := by omega
                have hs2 : ¬ (m : Int) < ((ci : Int) + 1) - ((ol : Int) + 1) := by omega
                have hs3 : ((ci : Int) + 1) - ((ol : Int) + 1) + (rm : Int) = m := by omega
                clear hrm hsum
                try clear hql
                go_wp2_with fail
                refine (room_any b m (q ++ [z.getD ci 0]) y0 OP.out.rg).mono ?_
                rintro e y1 ⟨rfl, b7⟩
                rw [← HRM.out]
                have OF := Lib.hid (OP.out.below b7)
                clear b7
                go_wp2_with fail
                go_roundw
                case rel => exact ⟨kk + 1, ci + 1, (o ++ [h]), (q ++ [z.getD ci 0]), by omega, by go_num, by first | rfl | go_num, OF.out⟩
                case measure => simp [intOf]; omega
              · have HG := Lib.hid (goes_no (m := m) (q := q) hg)
                have HP := Lib.hid (fun v => push_no (m := m) (q := q) v hg)
                clear hg
                refine (push_any b m q x w6 O6.out.rg).mono ?_
                rintro e y0 ⟨rfl, r0, k0⟩
                rw [HG.out]
                rw [HP.out] at r0
                have OP := Lib.hid (O6.out.stay HBZ.out k0 r0)
                clear r0 k0
                have hsum := OP.out.sum
                simp only [List.length_append, List.length_cons, List.length_nil, List.length_singleton, ← HOL.out, Nat.zero_add] at hsum
                have hql := OP.out.rg.ql
                try simp only [List.length_append, List.length_cons, List.length_nil, List.length_singleton, Nat.zero_add] at hql
                obtain ⟨rm, hrm⟩ : ∃ rm, rm = m - ((q)).length := ⟨_, rfl⟩
                have HRM := Lib.hid hrm
                try simp only [List.length_append, List.length_cons, List.length_nil, List.length_singleton, Nat.zero_add] at hrm
                have hs1 : ((ol : Int) + 1) ≤ (ci : Int) := by omega
                have hs2 : ¬ (m : Int) < (ci : Int) - ((ol : Int) + 1) := by omega
                have hs3 : (ci : Int) - ((ol : Int) + 1) + (rm : Int) = m := by omega
                clear hrm hsum
                try clear hql
                go_wp2_with fail
                refine (room_any b m (q) y0 OP.out.rg).mono ?_
                rintro e y1 ⟨rfl, b7⟩
                rw [← HRM.out]
                have OF := Lib.hid (OP.out.below b7)
                clear b7
                go_wp2_with fail
                go_roundw
                case rel => exact ⟨kk + 1, ci, (o ++ [h]), (q), by omega, by go_num, by first | rfl | go_num, OF.out⟩
                case measure => simp [intOf]; omega
        · have k21 : ¬ (ci : Int) < n := by omega
          cases hdiv : ((kk : Int) % (s : Int) == 0)
          · skip
            have hs0 : (ol : Int) ≤ ci := by have := OR.out.sum; rw [← HOL.out] at this; omega
            have hsum := OR.out.sum
            simp only [List.length_append, List.length_cons, List.length_nil, List.length_singleton, ← HOL.out, Nat.zero_add] at hsum
            have hql := OR.out.rg.ql
            try simp only [List.length_append, List.length_cons, List.length_nil, List.length_singleton, Nat.zero_add] at hql
            obtain ⟨rm, hrm⟩ : ∃ rm, rm = m - ((q)).length := ⟨_, rfl⟩
            have HRM := Lib.hid hrm
            try simp only [List.length_append, List.length_cons, List.length_nil, List.length_singleton, Nat.zero_add] at hrm
            have hs1 : (ol : Int) ≤ (ci : Int) := by omega
            have hs2 : ¬ (m : Int) < (ci : Int) - (ol : Int) := by omega
            have hs3 : (ci : Int) - (ol : Int) + (rm : Int) = m := by omega
            clear hrm hsum
            try clear hql
            go_wp2_with fail
            refine (room_any b m (q) wr OR.out.rg).mono ?_
            rintro e y1 ⟨rfl, b7⟩
            rw [← HRM.out]
            have OF := Lib.hid (OR.out.below b7)
            clear b7
            go_wp2_with fail
            go_roundw
            case rel => exact ⟨kk + 1, ci, o, (q), by omega, by go_num, by first | rfl | go_num, OF.out⟩
            case measure => simp [intOf]; omega
          · go_wp2_with fail
            cases q with
            | nil =>
              refine (pop_any b m [] wr OR.out.rg).mono ?_
              rintro e x5 ⟨rfl, r5, k5⟩
              rw [show anyQ [] = false from rfl]
              have O5 := Lib.hid (OR.out.stay (q := []) HBZ.out k5 r5)
              clear r5 k5
              skip
              have hsum := O5.out.sum
              simp only [List.length_append, List.length_cons, List.length_nil, List.length_singleton, ← HOL.out, Nat.zero_add] at hsum
              have hql := O5.out.rg.ql
              try simp only [List.length_append, List.length_cons, List.length_nil, List.length_singleton, Nat.zero_add] at hql
              obtain ⟨rm, hrm⟩ : ∃ rm, rm = m - ((([] : List Int))).length := ⟨_, rfl⟩
              have HRM := Lib.hid hrm
              try simp only [List.length_append, List.length_cons, List.length_nil, List.length_singleton, Nat.zero_add] at hrm
              have hs1 : (ol : Int) ≤ (ci : Int) := by omega
              have hs2 : ¬ (m : Int) < (ci : Int) - (ol : Int) := by omega
              have hs3 : (ci : Int) - (ol : Int) + (rm : Int) = m := by omega
              clear hrm hsum
              try clear hql
              go_wp2_with fail
              refine (room_any b m (([] : List Int)) x5 O5.out.rg).mono ?_
              rintro e y1 ⟨rfl, b7⟩
              rw [← HRM.out]
              have OF := Lib.hid (O5.out.below b7)
              clear b7
              go_wp2_with fail
              go_roundw
              case rel => exact ⟨kk + 1, ci, o, (([] : List Int)), by omega, by go_num, by first | rfl | go_num, OF.out⟩
              case measure => simp [intOf]; omega
            | cons h q =>
              refine (pop_any b m (h :: q) wr OR.out.rg).mono ?_
              rintro e x5 ⟨rfl, r5, k5⟩
              rw [show anyQ (h :: q) = true from rfl, show headQ (h :: q) = h from rfl]
              have hk5 := OR.out.keep (o' := o) HBZ.out k5 r5
              have HK5 := Lib.hid hk5
              have hok : ol ≤ 300 := by have := OR.out.sum; rw [← HOL.out] at this; omega
              clear r5 k5 hk5
              have HY1 := Lib.hid ((Below.refl x5.heap.size x5).alloc (Nat.le_refl _) (.cells #[.int .u32 h] 30))
              have HOA := Lib.hid (own_below HK5.out.2.1 HY1.out)
              have HBA := Lib.hid (HK5.out.2.2.alloc HK5.out.2.2.size (.cells #[.int .u32 h] 30))
              have HRA := Lib.hid (HK5.out.1.below HY1.out HK5.out.1.lt)
              have HON := Lib.hid (row_one1 x5 h 30)
              have HLT := Lib.hid (fun g hg => (HOA.out.lt g hg).1)
              have hbs : b < x5.heap.size := HK5.out.1.lt
              rw [← HOL.out] at HOA
              have hp1 : (ol : Int) + 1 ≤ ci := by have q1 := OR.out.sum; rw [← HOL.out] at q1; simp only [List.length_cons] at q1; omega
              have hp2 : ¬ (m : Int) < ci - ((ol : Int) + 1) := by have q1 := OR.out.sum; have q2 := OR.out.rg.ql; rw [← HOL.out] at q1; simp only [List.length_cons] at q1 q2; omega
              go_wp2_with (first
                | (refine wpList_append_new _ rfl (.tmp 57) (.tmp 59) 23 rfl (b + 1) 30 i0 _ 1 4 Try.underlying23 HI.out HZ0.out HZ1.out HZ2.out rfl (by omega) (.slice Ao ol co) ol (w32 o) rfl HOA.out _ (.slice (some ⟨x5.heap.size, 0, none⟩) 1 1) 1 (w32 [h]) rfl HON.out (w32_one _) (by unfold maxLen; omega) (by omega) (by simp; omega) ?_; intro v2 w6 hO hg hn2; obtain ⟨A6, c6, rfl⟩ := (Row.of_own hO).form; have O6 := Lib.hid (ord_out OR.out HOL.out HRA.out HBA.out hO hg HLT.out HBZ.out); clear hO hg hn2; skip))
              have hsum := O6.out.sum
              simp only [List.length_append, List.length_cons, List.length_nil, List.length_singleton, ← HOL.out, Nat.zero_add] at hsum
              have hql := O6.out.rg.ql
              try simp only [List.length_append, List.length_cons, List.length_nil, List.length_singleton, Nat.zero_add] at hql
              obtain ⟨rm, hrm⟩ : ∃ rm, rm = m - ((q)).length := ⟨_, rfl⟩
              have HRM := Lib.hid hrm
              try simp only [List.length_append, List.length_cons, List.length_nil, List.length_singleton, Nat.zero_add] at hrm
              have hs1 : ((ol : Int) + 1) ≤ (ci : Int) := by omega
              have hs2 : ¬ (m : Int) < (ci : Int) - ((ol : Int) + 1) := by omega
              have hs3 : (ci : Int) - ((ol : Int) + 1) + (rm : Int) = m := by omega
              clear hrm hsum
              try clear hql
              go_wp2_with fail
              refine (room_any b m (q) w6 O6.out.rg).mono ?_
              rintro e y1 ⟨rfl, b7⟩
              rw [← HRM.out]
              have OF := Lib.hid (O6.out.below b7)
              clear b7
              go_wp2_with fail
              go_roundw
              case rel => exact ⟨kk + 1, ci, (o ++ [h]), (q), by omega, by go_num, by first | rfl | go_num, OF.out⟩
              case measure => simp [intOf]; omega
      · have h1 : ¬ (kk : Int) < 700 := by omega
        have HSUM := Lib.hid OR.out.sum
        have HEQ := Lib.hid OR.out.eq
        have HCI := Lib.hid hle
        have k22 : (0 : Int) ≤ ci := by omega
        have k23 : (ci : Int) ≤ c := by omega
        obtain ⟨ol, hol⟩ : ∃ ol, ol = o.length := ⟨_, rfl⟩
        rw [← hol] at OR HSUM ⊢
        have HOL := Lib.hid hol
        clear hol
        have HOO : Hid (ol + q.length ≤ 300) := by have h : ol + q.length ≤ 300 := by (have := HSUM.out; omega)
                                                   exact h
        go_wp2_with fail
        refine wp_region_lin [(0, true), (1, true), (4, true), (5, true), (6, true), (2, false), (3, false), (7, false), (8, true)]
          (by kernel_rfl) (by kernel_rfl) rfl (by kernel_rfl) (fun _ : World => True) ?_
        simp only [List.map_cons, List.map_nil, List.getElem?_toArray, List.getElem?_cons_succ, List.getElem?_cons_zero]
        have htr : True := trivial
        have ODr := Lib.hid (OR.out.below (Below.refl _ _).drew)
        obtain ⟨W, hW⟩ : ∃ W, W = wr.drew := ⟨_, rfl⟩
        rw [← hW] at ODr ⊢
        clear hW
        iterate 5 (refine lin_take (v := ?_) (by assumption) (by rfl) ?_ ?_; rotate_left; (intro x hx; (try dsimp only at hx); go_simp; try (with_reducible rfl)); (simp only [Act.put, List.setIfInBounds_toArray, List.set_cons_zero, List.set_cons_succ]))
        refine lin_call (by assumption) (by rfl) (fun K hK => ?_)
        go_simp
        refine (all_any b m q W ODr.out.rg).mono ?_
        rintro e y1 ⟨v1, rfl, o1, b1⟩
        have HB1 := Lib.hid (on_below ODr.out.bl b1)
        have OV := Lib.hid (own_below ODr.out.ow b1)
        rw [← HOL.out] at OV
        have OQ := Lib.hid o1
        have HSZ := Lib.hid (Nat.le_trans (Nat.le_of_lt ODr.out.rg.lt) b1.size)
        have hbl1 : b < y1.heap.size := Nat.lt_of_lt_of_le ODr.out.rg.lt b1.size
        have HLV := Lib.hid (fun g hg => (OV.out.lt g hg).1)
        clear b1 o1
        go_wp2_with fail
        refine hK.out _ _ (by assumption) (fun _ => ?_)
        clear hK K
        try simp only [Act.put, List.setIfInBounds_toArray, List.set_cons_zero, List.set_cons_succ]
        refine lin_call (by assumption) (by rfl) (fun K hK => ?_)
        refine wp_append_new _ (.tmp 92) (.tmp 94) 23 rfl (b + 1) 30 i0 _ 1 4 Try.underlying23 HI.out HZ0.out HZ1.out HZ2.out rfl (by omega) (.slice Ao ol co) ol (w32 o) rfl OV.out _ v1 q.length (w32 q) rfl (Row.of_own OQ.out) (w32_one _) (by have := HOO.out; unfold maxLen; omega) (by have := HOO.out; omega) (by omega) ?_
        intro v2 y2 hO hg hn2
        have HB2 := Lib.hid (Below.grown HB1.out hg HB1.out.size (fun g hg => by have := HLV.out g hg; have := HBZ.out; omega))
        rw [w32_app, HSUM.out] at hO
        have OO := Lib.hid hO
        clear hO hg hn2
        refine hK.out _ _ (by assumption) (fun _ => ?_)
        clear hK K
        try simp only [Act.put, List.setIfInBounds_toArray, List.set_cons_zero, List.set_cons_succ]
        refine lin_call (by assumption) (by rfl) (fun K hK => ?_)
        go_simp
        refine (same_yes15 (o ++ q) ci y2 _ _ (by rw [List.length_append, ← HOL.out]; exact HSUM.out) (Row.of_own OO.out) (by rw [HEQ.out]; exact row_front1 ((HR.out.below HB2.out).more HB2.out.size) HCI.out)).mono ?_
        rintro e y3 ⟨rfl, b3⟩
        have HB3 := Lib.hid (on_below HB2.out b3)
        clear b3
        go_wp2_with fail
        refine hK.out _ _ (by assumption) (fun _ => ?_)
        clear hK K
        try simp only [Act.put, List.setIfInBounds_toArray, List.set_cons_zero, List.set_cons_succ]
        (refine lin_take (v := ?_) (by assumption) (by rfl) ?_ ?_; rotate_left; (intro x hx; (try dsimp only at hx); go_simp; try (with_reducible rfl)); (simp only [Act.put, List.setIfInBounds_toArray, List.set_cons_zero, List.set_cons_succ]))
        refine lin_done ?_
        go_wp2_with fail
        go_ret
        exact ⟨rfl, HB3.out⟩
end Go.Proofs.Ytbocpjbfnkoobaa.Words

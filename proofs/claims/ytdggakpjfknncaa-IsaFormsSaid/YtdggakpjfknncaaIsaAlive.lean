/- Contracts of the laws' own helpers of chapter 2: 'same' at two equal lists; two instructions compared; 'alive', the document's example. -/
import Derived.Test.YtdggakpjfknncaaIsaReads
import Derived.Test.YtdggakpjfknncaaIsaDecode
import Derived.LoopTactic
import Derived.RegionTactic
namespace Go.Proofs.Ytdggakpjfknncaa.Words
open Go.RowKit

theorem Row.cellAt {w : World} {B n k : Nat} {b off c : Nat} {zs : List Int} (h : Row w B 1 (.slice (some ⟨b, off, none⟩) n c) n (zs.map (Value.int .i64))) (hk : k < n) :
    w.cell? ⟨b, off + k, none⟩ = some (.int .i64 (zs.getD k 0)) := by
  have hl := h.len
  have := h.cells ⟨b, off, none⟩ rfl k (.int .i64 (zs.getD k 0)) (by
    rw [List.getElem?_map, List.getElem?_eq_getElem (by simp at hl; omega), List.getD_eq_getElem?_getD, List.getElem?_eq_getElem (by simp at hl; omega)]
    rfl)
  rwa [add_spot] at this

set_option maxHeartbeats 1000000 in
theorem same_yes {w : World} {v1 v2 : Value} {B1 B2 : Nat} {zs : List Int} (h1 : Row w B1 1 v1 zs.length (zs.map (Value.int .i64))) (h2 : Row w B2 1 v2 zs.length (zs.map (Value.int .i64))) :
    Calls Try.prog 19 #[v1, v2] w fun e w' => e = .returned (.bool true) ∧ ∃ k, w' = w.drewN k := by
  obtain ⟨A1, c1, rfl⟩ := h1.form
  obtain ⟨A2, c2, rfl⟩ := h2.form
  have hcap := h1.cap
  by_cases hn : zs.length = 0
  · rw [hn] at h1 h2 ⊢
    go_enter Try.func19, Try.ntmps19
    go_wp2_with fail
    refine wp_loop_rounds 1 ?_
    rw [rounds_succ]
    go_wp2_with fail
    go_ret
    exact ⟨rfl, 0, rfl⟩
  · obtain ⟨b1, o1, rfl, _, _⟩ := h1.at_ hn
    obtain ⟨b2, o2, rfl, _, _⟩ := h2.at_ hn
    have hx := fun k hk => h1.cellAt (k := k) hk
    have hy := fun k hk => h2.cellAt (k := k) hk
    have HX := Lib.hid hx
    have HY := Lib.hid hy
    clear hx hy h1 h2
    generalize hN : zs.length = n at *
    clear hN
    go_enter Try.func19, Try.ntmps19
    go_wp2_with fail
    go_loopw [5] (fun i wr => ∃ k m : Nat, k ≤ n ∧ i = .int .i64 k ∧ wr = w.drewN m) (fun i _ => n - (intOf i).toNat)
    case atStart => exact ⟨0, 0, Nat.zero_le _, rfl, rfl⟩
    case round =>
      obtain ⟨k, m, hk, rfl, rfl⟩ := hrel
      by_cases hlt : k < n
      · have cx := HX.out k hlt
        have cy := HY.out k hlt
        have k0 : (0 : Int) ≤ k := by omega
        have k1 : (k : Int) < n := by omega
        go_wp2_with fail
        go_quiet (fail)
        go_wp2_with fail
        go_roundw
        case rel => exact ⟨k + 1, _, by omega, by go_num, rfl⟩
        case measure => simp [intOf]; omega
      · go_wp2_with fail
        go_ret
        exact ⟨rfl, m, rfl⟩

def Ins.cells (i : Ins) : Array Value := #[.int .i64 i.op, .int .i64 i.d, .int .i64 i.a, .int .i64 i.b, .int .i64 i.imm]
theorem eqFields_ins (i k : Ins) (w : World) : (Op.equalIn 10000 23 (.agg #[.int .i64 i.op, .int .i64 i.d, .int .i64 i.a, .int .i64 i.b, .int .i64 i.imm]) (.agg #[.int .i64 k.op, .int .i64 k.d, .int .i64 k.a, .int .i64 k.b, .int .i64 k.imm])).run Try.prog w = .ok (decide (i = k)) w := by
  have hS : Try.prog.underlying 23 = some (.struct (Try.prog.fieldsOf 23)) := by kernel_rfl
  have hp : Try.prog.stoodInHeld 23 = false := by kernel_rfl
  rw [show (10000 : Nat) = 9999 + 1 from rfl, run_equalIn_agg w 9999 23 _ _ hS hp]
  simp only [Program.fieldsOf, Try.underlying23]
  go_simp
  have e := Ins.eq_iff i k
  by_cases h1 : i.op = k.op <;> by_cases h2 : i.d = k.d <;> by_cases h3 : i.a = k.a <;> by_cases h4 : i.b = k.b <;> by_cases h5 : i.imm = k.imm <;> simp [h1, h2, h3, h4, h5, e]
theorem eql_ins (i k : Ins) (w : World) : (binOp .eql 23 (.agg #[.int .i64 i.op, .int .i64 i.d, .int .i64 i.a, .int .i64 i.b, .int .i64 i.imm]) (.agg #[.int .i64 k.op, .int .i64 k.d, .int .i64 k.a, .int .i64 k.b, .int .i64 k.imm])).run Try.prog w = .ok (.bool (decide (i = k))) w := by
  rw [run_eql_struct, eqFields_ins]; rfl
theorem neq_ins (i k : Ins) (w : World) : (binOp .neq 23 (.agg #[.int .i64 i.op, .int .i64 i.d, .int .i64 i.a, .int .i64 i.b, .int .i64 i.imm]) (.agg #[.int .i64 k.op, .int .i64 k.d, .int .i64 k.a, .int .i64 k.b, .int .i64 k.imm])).run Try.prog w = .ok (.bool (!decide (i = k))) w := by
  rw [run_neq_struct, eqFields_ins]; rfl

/-- The document's example: addi 1, 2, -3. -/
def insEx : Ins := ⟨17, 1, 2, 0, -3⟩
theorem insEx_right : rightB insEx = true := by decide
theorem insEx_enc : encZ insEx = 17 * 67108864 + 4194304 + 2 * 262144 + 16381 := by decide
theorem insEx_reads : readsZ insEx = [2] := by decide

set_option maxHeartbeats 1000000 in
theorem alive_any (w : World) :
    Calls Try.prog 10 #[] w fun e w' => e = .returned (.bool true) ∧ Below w.heap.size w w' := by
  have f8 : formZ 41 = 8 := by decide
  have F8 := Lib.hid f8
  clear f8
  go_enter Try.func10, Try.ntmps10
  go_wp2_with fail
  refine (encode_any insEx _).mono ?_; rintro e w1 ⟨rfl, hb1⟩
  rw [insEx_right, encV_yes insEx_right]
  obtain ⟨hc1, hf1⟩ := bcell hb1
  have hz1 : w.heap.size < w1.heap.size := by have := hb1.size; simp at this; omega
  go_wp2_with fail
  refine (decode_any (encZ insEx) _ (enc_range insEx_right).1 (enc_range insEx_right).2).mono ?_; rintro e w2 ⟨rfl, hb2⟩
  rw [(dec_enc insEx_right).1, (dec_enc insEx_right).2]
  dsimp only [insEx]
  obtain ⟨hc2, hf2⟩ := bcell hb2
  have hz2 : w.heap.size < w2.heap.size := by have := hb2.size; omega
  go_wp2_with fail
  refine (form_any _ _).mono ?_; rintro e w3 ⟨rfl, rfl⟩
  rw [F8.out]
  go_wp2_with fail
  refine (right_any insEx _).mono ?_; rintro e w3 ⟨rfl, hb3⟩
  rw [insEx_right]
  obtain ⟨hc3, hf3⟩ := bcell hb3
  have hz3 : w.heap.size < w3.heap.size ∧ w2.heap.size < w3.heap.size := by have := hb3.size; simp at this; omega
  obtain ⟨hz3, hz3'⟩ := hz3
  go_wp2_with fail
  refine (writes_any insEx _).mono ?_; rintro e w4 ⟨rfl, hb4⟩
  rw [writesZ_yes insEx_right]
  dsimp only [insEx]
  obtain ⟨hc4, hf4⟩ := bcell hb4
  have hz4 : w.heap.size < w4.heap.size ∧ w2.heap.size < w4.heap.size := by have := hb4.size; omega
  obtain ⟨hz4, hz4'⟩ := hz4
  go_wp2_with fail
  refine (reads_any insEx _).mono ?_; rintro e w5 ⟨v5, rfl, hr5, hb5⟩
  rw [insEx_reads] at hr5
  obtain ⟨A5, c5, rfl⟩ := hr5.form
  go_wp2_with fail
  go_ret
  have hB1 : Below w.heap.size w w1 := ((Below.refl w.heap.size w).alloc (Nat.le_refl _) _).trans (hb1.mono (by simp))
  have hB2 := hB1.trans (hb2.mono (Nat.le_of_lt hz1))
  have hB3 := (hB2.alloc (Nat.le_of_lt hz2) _).trans (hb3.mono (by simp; omega))
  have hB4 := hB3.trans (hb4.mono (Nat.le_of_lt hz3))
  exact ⟨rfl, hB4.trans (hb5.mono (Nat.le_of_lt hz4))⟩
end Go.Proofs.Ytdggakpjfknncaa.Words

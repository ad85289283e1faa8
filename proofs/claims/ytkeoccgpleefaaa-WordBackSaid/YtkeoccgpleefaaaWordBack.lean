/- The walk of the law WordBack: words are read as they were written, one behind the other, and no fewer than four bytes are one. -/
import Derived.Test.YtkeoccgpleefaaaWordAlive
import Derived.Test.YtkeoccgpleefaaaWordPuts
import Derived.Test.YtkeoccgpleefaaaZeros
import Derived.LoopN
namespace Go.Proofs.Ytkeoccgpleefaaa.Words
open Go.RowKit

/-- The bytes of words, one behind the other. -/
def bytesOf (zs : List Int) : List Value := zs.flatMap quad
theorem bytesOf_snoc (zs : List Int) (k : Nat) (x : Int) (h : zs[k]? = some x) : bytesOf (zs.take (k + 1)) = bytesOf (zs.take k) ++ quad x := by
  unfold bytesOf
  rw [List.take_add_one, h]
  simp [List.flatMap_append]
theorem bytesOf_len (zs : List Int) : (bytesOf zs).length = 4 * zs.length := by
  unfold bytesOf
  induction zs with
  | nil => rfl
  | cons z zs ih => simp [List.flatMap_cons, quad, ih]; omega
theorem bytesOf_one (zs : List Int) : ∀ u ∈ bytesOf zs, u.oneCell' = true := by
  intro u hu
  unfold bytesOf at hu
  rw [List.mem_flatMap] at hu
  obtain ⟨z, _, hz⟩ := hu
  exact quad_one z u hz
theorem bytesOf_at : ∀ (zs : List Int) (k : Nat) (x : Int), zs[k]? = some x → ∀ j, j < 4 → (bytesOf zs)[4 * k + j]? = (quad x)[j]?
  | [], k, x, h, _, _ => by simp at h
  | z :: zs, 0, x, h, j, hj => by
    simp at h; subst h
    simp only [bytesOf, List.flatMap_cons, Nat.mul_zero, Nat.zero_add]
    rw [List.getElem?_append_left (by simpa [quad] using hj)]
  | z :: zs, k + 1, x, h, j, hj => by
    simp at h
    have ih := bytesOf_at zs k x h j hj
    simp only [bytesOf, List.flatMap_cons] at ih ⊢
    rw [List.getElem?_append_right (by simp [quad]; omega), ← ih]
    congr 1
    simp [quad]; omega
theorem own_base {w : World} {base base' : Nat} {e : TypeId} {size : Nat} {v : Value} {n : Nat} {xs : List Value} (h : w.ownsRow base e size v n xs) (hb : base' ≤ base) : w.ownsRow base' e size v n xs := by
  refine ⟨h.1, ?_⟩
  rcases h.2 with hn | ⟨g, cap, cur, rfl, h0, rest⟩
  · exact .inl hn
  · exact .inr ⟨g, cap, cur, rfl, by omega, rest⟩

theorem own_cell {w : World} {base : Nat} {e : TypeId} {size n g cap : Nat} {xs : List Value} (h : w.ownsRow base e size (.slice (some ⟨g, 0, none⟩) n cap) n xs) {j : Nat} {u : Value} (hu : xs[j]? = some u) : w.cell? ⟨g, 0 + j, none⟩ = some u := by
  have := h.cells (g := g) rfl j u hu
  rwa [add_spot] at this

/-- The m-th word of a row of words' bytes. -/
theorem get_word {w : World} {base g n c : Nat} {zs : List Int} (m : Nat) (x at_ : Int) (hat : at_ = 4 * (m : Int)) (hx0 : 0 ≤ x) (hx1 : x ≤ 4294967295) (hm : zs[m]? = some x) (hn : zs.length = n)
    (hown : w.ownsRow base 5 1 (.slice (some ⟨g, 0, none⟩) (4 * n) c) (4 * n) (bytesOf zs)) (d : Nat) :
    Calls Try.prog 8 #[.slice (some ⟨g, 0, none⟩) (4 * n) c, .int .i64 at_] (w.drewN d) fun e w' => e = .returned (.tuple #[.int .u32 x, .bool true]) ∧ ∃ k, w' = w.drewN k := by
  have hlt : m < n := by rw [← hn]; exact (List.getElem?_eq_some_iff.1 hm).1
  have hcap := (Row.of_own hown).cap
  have q := fun j hj => bytesOf_at zs m x hm j hj
  have c0 : (w.drewN d).cell? ⟨g, 0 + 4 * m, none⟩ = some (.int .u8 (x % 256)) := own_cell hown (by have := q 0 (by omega); simpa [quad] using this)
  have c1 : (w.drewN d).cell? ⟨g, 0 + 4 * m + 1, none⟩ = some (.int .u8 (x / 256 % 256)) := by rw [Nat.add_assoc]; exact own_cell hown (by have := q 1 (by omega); simpa [quad] using this)
  have c2 : (w.drewN d).cell? ⟨g, 0 + 4 * m + 2, none⟩ = some (.int .u8 (x / 65536 % 256)) := by rw [Nat.add_assoc]; exact own_cell hown (by have := q 2 (by omega); simpa [quad] using this)
  have c3 : (w.drewN d).cell? ⟨g, 0 + 4 * m + 3, none⟩ = some (.int .u8 (x / 16777216)) := by rw [Nat.add_assoc]; exact own_cell hown (by have := q 3 (by omega); simpa [quad] using this)
  refine (get_at g 0 (4 * n) c (4 * m) at_ (by omega) (x % 256) (x / 256 % 256) (x / 65536 % 256) (x / 16777216) (w.drewN d) hcap.1 hcap.2 (by omega) (by omega) (by omega) (by omega) (by omega) c0 c1 c2 c3).mono ?_
  rintro e w' ⟨rfl, k, rfl⟩
  exact ⟨ret_word (by omega), d + k, by rw [World.drewN_drewN]⟩

theorem get_short {w : World} {B : Nat} {v : Value} {n : Nat} {xs : List Value} (h : Row w B 1 v n xs) (at_ : Int) (hat : at_ < 0 ∨ (n : Int) < at_ + 4) :
    Calls Try.prog 8 #[v, .int .i64 at_] w fun e w' => e = .returned (.tuple #[.int .u32 0, .bool false]) ∧ w = w' := by
  obtain ⟨A, c, rfl⟩ := h.form
  have := h.cap
  exact get_no A n c at_ w (by omega) hat
theorem u8_zeros (m : Nat) : ∀ u ∈ zerosOf (.int .u8 0) m, u.oneCell' = true := by
  intro u hu
  rw [zerosOf_one] at hu
  rw [List.eq_of_mem_replicate hu]; rfl

set_option maxHeartbeats 400000 in
theorem wordBack_main (b off n c : Nat) (zs : List Int) (a1 : Int) (w : World) (hz : zs.length = n) (hn : 0 < n) (h40 : n ≤ 40) (hb0 : b < w.heap.size)
    (hc : ∀ j x, zs[j]? = some x → w.cell? ⟨b, off + j, none⟩ = some (.int .u32 x)) (hx : ∀ x ∈ zs, 0 ≤ x ∧ x ≤ 4294967295) (h0 : 0 ≤ a1) (h3 : a1 ≤ 3) :
    Calls Try.prog 4 #[.slice (some ⟨b, off, none⟩) n c, .int .i64 a1] w fun e w' => e = .returned (.bool true) ∧ Below w.heap.size w w' := by
  have HC := Lib.hid hc
  have HX := Lib.hid hx
  have HZ := Lib.hid hz
  clear hc hx hz
  obtain ⟨cut, rfl⟩ := Int.eq_ofNat_of_zero_le h0
  obtain ⟨i0, hi, hz0, hz1, hz2⟩ := info_parts info_u8
  have HZ2 := Lib.hid hz2
  clear hz2
  go_enter Try.func4, Try.ntmps4
  go_wp2_with fail
  refine (alive_any _).mono ?_; rintro e w1 ⟨rfl, hb⟩
  go_wp2_with fail
  go_loopw [6, 7] (fun v i wr => ∃ k : Nat, k ≤ n ∧ i = .int .i64 k ∧ wr.ownsRow w.heap.size 5 1 v (4 * k) (bytesOf (zs.take k)) ∧ Below w.heap.size w wr) (fun _ i _ => n - (intOf i).toNat)
  case atStart => exact ⟨0, Nat.zero_le _, rfl, World.ownsRow_nil _ _ _ _, hb⟩
  case round =>
    obtain ⟨k, hk, rfl, hown, hbr⟩ := hrel
    by_cases hlt : k < n
    · obtain ⟨x, hxk⟩ : ∃ x, zs[k]? = some x := ⟨zs[k]'(by rw [HZ.out]; exact hlt), List.getElem?_eq_getElem _⟩
      have hcell : wr.cell? ⟨b, off + k, none⟩ = some (.int .u32 x) := (hbr.cell (p := ⟨b, off + k, none⟩) hb0).trans (HC.out k x hxk)
      have hxr := HX.out x (List.mem_of_getElem? hxk)
      have HK := Lib.hid hxk
      clear hxk
      go_wp2_with fail
      refine (put_any x (by omega) (by omega) (Row.of_own hown) (bytesOf_one _) (by omega)).mono ?_; rintro e w2 ⟨rfl, hown2, hb2⟩
      go_wp2_with fail
      go_roundw
      case rel => exact ⟨k + 1, by omega, by go_num, by rw [bytesOf_snoc zs k x HK.out]; exact own_base hown2 hbr.size, hbr.trans (hb2.mono hbr.size)⟩
      case measure => simp [intOf]; omega
    · obtain rfl : k = n := by omega
      have hform : ∃ g cap, u6 = .slice (some ⟨g, 0, none⟩) (4 * k) cap := by
        rcases hown.2 with ⟨_, h⟩ | ⟨g, cap, cur, h, _⟩
        · omega
        · exact ⟨g, cap, h⟩
      obtain ⟨g, cap, hg⟩ := hform
      subst hg
      have htk : zs.take k = zs := List.take_of_length_le (by rw [HZ.out]; exact Nat.le_refl _)
      rw [htk] at hown
      clear htk
      go_wp2_with fail
      go_loopw [8] (fun i wr' => ∃ m d : Nat, m ≤ k ∧ i = .int .i64 m ∧ wr' = wr.drewN d) (fun i _ => k - (intOf i).toNat)
      case atStart => exact ⟨0, 0, Nat.zero_le _, rfl, rfl⟩
      case round =>
        obtain ⟨m, d, hm, rfl, rfl⟩ := hrel
        by_cases hlt2 : m < k
        · obtain ⟨x, hxk⟩ : ∃ x, zs[m]? = some x := ⟨zs[m]'(by rw [HZ.out]; exact hlt2), List.getElem?_eq_getElem _⟩
          have hcell : wr.cell? ⟨b, off + m, none⟩ = some (.int .u32 x) := (hbr.cell (p := ⟨b, off + m, none⟩) hb0).trans (HC.out m x hxk)
          have hxr := HX.out x (List.mem_of_getElem? hxk)
          have HK := Lib.hid hxk
          clear hxk
          go_wp2_with fail
          refine (get_word m x _ rfl (by omega) (by omega) HK.out HZ.out hown d).mono ?_; rintro e w2 ⟨rfl, d2, rfl⟩
          go_wp2_with fail
          go_roundw
          case rel => exact ⟨m + 1, d2, by omega, by go_num, rfl⟩
          case measure => simp [intOf]; omega
        · obtain rfl : m = k := by omega
          go_wp2_with (at_builtin; refine wpList_append_zeros _ rfl (.tmp 66) (.tmp 67) 22 3 rfl w.heap.size 5 i0 (.int .u8 0) 1 1 .i64 .i64 Try.underlying22 Try.underlying3 hi hz0 hz1 HZ2.out rfl u8_zeros (by omega) (.slice (some ⟨g, 0, none⟩) (4 * m) cap) (4 * m) (bytesOf zs) rfl hown cut _ rfl rfl (by unfold maxLen; omega) (by omega) (by have := hbr.size; simpa using this) ?_; intro v3 w3 hown3 hg3)
          have hge := (hown.lt g rfl).1
          refine (get_short (Row.of_own hown3) _ (by omega)).mono ?_; rintro e w4 ⟨rfl, rfl⟩
          have hlen : ((4 * m : Nat) : Int) = 4 * (m : Int) := by omega
          go_wp2_with fail
          go_ret
          exact ⟨rfl, (Below.drewN_ hbr d).grown hg3 (by have := hbr.size; simpa using this) (fun k hk => by simp [Value.ownBlock] at hk; omega)⟩

set_option maxHeartbeats 400000 in
theorem wordBack_none (A : Option Addr) (c : Nat) (a1 : Int) (w : World) (h0 : 0 ≤ a1) (h3 : a1 ≤ 3) :
    Calls Try.prog 4 #[.slice A 0 c, .int .i64 a1] w fun e w' => e = .returned (.bool true) ∧ Below w.heap.size w w' := by
  obtain ⟨cut, rfl⟩ := Int.eq_ofNat_of_zero_le h0
  obtain ⟨i0, hi, hz0, hz1, hz2⟩ := info_parts info_u8
  have HZ2 := Lib.hid hz2
  clear hz2
  go_enter Try.func4, Try.ntmps4
  go_wp2_with fail
  refine (alive_any _).mono ?_; rintro e w1 ⟨rfl, hb⟩
  go_wp2_with fail
  refine wp_loop_rounds 1 ?_
  rw [rounds_succ]
  go_wp2_with fail
  refine wp_loop_rounds 1 ?_
  rw [rounds_succ]
  go_wp2_with (at_builtin; refine wpList_append_zeros _ rfl (.tmp 66) (.tmp 67) 22 3 rfl w.heap.size 5 i0 (.int .u8 0) 1 1 .i64 .i64 Try.underlying22 Try.underlying3 hi hz0 hz1 HZ2.out rfl u8_zeros (by omega) (.slice none 0 0) 0 [] rfl (World.ownsRow_nil _ _ _ _) cut _ rfl rfl (by unfold maxLen; omega) (by omega) (by have := hb.size; simpa using this) ?_; intro v3 w3 hown3 hg3)
  refine (get_short (Row.of_own hown3) _ (by omega)).mono ?_; rintro e w4 ⟨rfl, rfl⟩
  go_wp2_with fail
  go_ret
  exact ⟨rfl, hb.grown hg3 (by have := hb.size; simpa using this) (fun k hk => by simp [Value.ownBlock] at hk)⟩

theorem wordBack_walk (v0 : Value) (n0 : Nat) (z0 : List Int) (a1 : Int) (w : World) (r0 : Row w w.heap.size 1 v0 n0 (z0.map (Value.int .u32))) (g0 : ∀ x ∈ z0, 0 ≤ x ∧ x ≤ 4294967295)
    (w1 : -9223372036854775808 ≤ a1 ∧ a1 ≤ 9223372036854775807) :
    Calls Try.prog 4 #[v0, .int .i64 a1] w fun e w' => e = .returned (.bool true) ∧ Below w.heap.size w w' := by
  obtain ⟨A, c, rfl⟩ := r0.form
  have hcap := r0.cap
  have hlen := r0.len
  by_cases h40 : n0 ≤ 40
  · by_cases h0 : a1 < 0
    · clear hlen
      go_enter Try.func4, Try.ntmps4
      go_wp2_with fail
      refine (alive_any _).mono ?_; rintro e w1 ⟨rfl, hb⟩
      go_wp2_with fail
      go_ret
      exact ⟨rfl, hb⟩
    by_cases h3 : 3 < a1
    · clear hlen
      go_enter Try.func4, Try.ntmps4
      go_wp2_with fail
      refine (alive_any _).mono ?_; rintro e w1 ⟨rfl, hb⟩
      go_wp2_with fail
      go_ret
      exact ⟨rfl, hb⟩
    by_cases hn : n0 = 0
    · subst hn
      exact wordBack_none A c a1 w (by omega) (by omega)
    · obtain ⟨b, off, rfl, hb, hc⟩ := r0.at_ hn
      refine wordBack_main b off n0 c z0 a1 w (by simpa using hlen) (by omega) h40 hb (fun j x hx => hc j _ (by rw [List.getElem?_map, hx]; rfl)) g0 (by omega) (by omega)
  · have h40' : 40 < n0 := by omega
    clear hlen
    go_enter Try.func4, Try.ntmps4
    go_wp2_with fail
    refine (alive_any _).mono ?_; rintro e w1 ⟨rfl, hb⟩
    go_wp2_with fail
    go_ret
    exact ⟨rfl, hb⟩
end Go.Proofs.Ytkeoccgpleefaaa.Words

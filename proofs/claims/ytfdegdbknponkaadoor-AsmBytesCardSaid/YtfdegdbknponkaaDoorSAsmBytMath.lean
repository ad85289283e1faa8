/- The texts of AsmBytes, and their programs. Plain mathematics. -/
import Derived.Test.YtfdegdbknponkaaDoorG10
namespace Go.Proofs.YtfdegdbknponkaaDoor.Words
set_option maxRecDepth 100000
set_option linter.unusedVariables false
set_option linter.unusedSimpArgs false
open Go.Lib

abbrev haltB : Ins := ⟨41, 0, 0, 0, 0⟩
def bytPcs (x : Int × Bool) : List Pc := if x.2 = true then [.line, .name byteN, SP, .num x.1 (decN x.1)] else [CM, SP, .num x.1 (decN x.1)]
def bytLns (n : Int) (ns : List Int) : List (Int × Bool) → List Ln
  | [] => [⟨[], .bytes n ns⟩]
  | x :: r => if x.2 = true then ⟨[], .bytes n ns⟩ :: bytLns x.1 [] r else bytLns n (ns ++ [x.1]) r
theorem bytPcs_yes {x : Int × Bool} (h : x.2 = true) : bytPcs x = [.line, .name byteN, SP, .num x.1 (decN x.1)] := if_pos h
theorem bytPcs_no {x : Int × Bool} (h : ¬ x.2 = true) : bytPcs x = [CM, SP, .num x.1 (decN x.1)] := if_neg h
theorem bytLns_yes {n : Int} {ns : List Int} {x : Int × Bool} {r : List (Int × Bool)} (h : x.2 = true) : bytLns n ns (x :: r) = ⟨[], .bytes n ns⟩ :: bytLns x.1 [] r := if_pos h
theorem bytLns_no {n : Int} {ns : List Int} {x : Int × Bool} {r : List (Int × Bool)} (h : ¬ x.2 = true) : bytLns n ns (x :: r) = bytLns n (ns ++ [x.1]) r := if_neg h
theorem bytLns_ne (n : Int) : ∀ (r : List (Int × Bool)) (ns : List Int), bytLns n ns r ≠ []
  | [], ns => by simp [bytLns]
  | x :: r, ns => by unfold bytLns; split; simp; exact bytLns_ne n r _
theorem textKeys_cons (z : List Key) (L : Ln) {Ls : List Ln} (h : Ls ≠ []) : textKeys z (L :: Ls) = lnKeys L ++ k4 :: textKeys z Ls := by
  cases Ls with
  | nil => exact absurd rfl h
  | cons L2 Ls => rfl
theorem textKeys_flatK (z : List Key) : ∀ (a : List Ln) {Ls : List Ln}, Ls ≠ [] → flatK a ++ textKeys z Ls = textKeys z (a ++ Ls)
  | [], Ls, h => rfl
  | L :: a, Ls, h => by
    have e : flatK (L :: a) = (lnKeys L ++ [k4]) ++ flatK a := rfl
    rw [e, List.append_assoc, textKeys_flatK z a h, List.cons_append, textKeys_cons z L (by simp [h])]
    simp
theorem byt_keys {X : List Pc} {Ls : List Ln} (hX : lexK true X = k4 :: textKeys [] Ls) (hL : Ls ≠ []) : ∀ (r : List (Int × Bool)) (n : Int) (ns : List Int), stmKeys (.bytes n ns) ++ lexK true (r.flatMap bytPcs ++ X) = textKeys [] (bytLns n ns r ++ Ls)
  | [], n, ns => by
    show _ ++ lexK true X = textKeys [] (⟨[], .bytes n ns⟩ :: Ls)
    rw [hX, textKeys_cons _ _ hL]
    rfl
  | x :: r, n, ns => by
    rw [List.flatMap_cons, List.append_assoc]
    by_cases h : x.2 = true
    · rw [bytPcs_yes h, bytLns_yes h]
      have ih := byt_keys hX hL r x.1 []
      have e := textKeys_cons [] ⟨[], .bytes n ns⟩ (Ls := bytLns x.1 [] r ++ Ls) (by simp [bytLns_ne])
      refine Eq.trans ?_ e.symm
      rw [← ih]
      rfl
    · rw [bytPcs_no h, bytLns_no h]
      have ih := byt_keys hX hL r n (ns ++ [x.1])
      rw [← ih]
      have e : stmKeys (.bytes n (ns ++ [x.1])) = stmKeys (.bytes n ns) ++ [kS 44, kI x.1] := by
        show kN byteN :: kI n :: byteKeys (ns ++ [x.1]) = kN byteN :: kI n :: byteKeys ns ++ _
        simp [byteKeys]
      rw [e, List.append_assoc]
      rfl
theorem byt_good {X : List Pc} (hX : goodP X) (hs : softN X = true) : ∀ r : List (Int × Bool), (∀ x ∈ r, 0 ≤ x.1 ∧ x.1 ≤ 255) → goodP (r.flatMap bytPcs ++ X) ∧ softN (r.flatMap bytPcs ++ X) = true
  | [], _ => ⟨hX, hs⟩
  | x :: r, h => by
    obtain ⟨g1, g2⟩ := byt_good hX hs r (fun y hy => h y (by simp [hy]))
    have hx := h x (by simp)
    have hn : IsNum x.1 (decN x.1) := decN_num (by omega)
    have hnx : nextP (.num x.1 (decN x.1)) (r.flatMap bytPcs ++ X) := by
      generalize r.flatMap bytPcs ++ X = Y at *
      cases Y with
      | nil => trivial
      | cons q Y => cases q <;> first | trivial | exact absurd g2 (by simp [softN])
    rw [List.flatMap_cons, List.append_assoc]
    unfold bytPcs
    split
    · exact ⟨⟨trivial, trivial, byte_name, trivial, .inl rfl, trivial, hn, hnx, g1⟩, rfl⟩
    · exact ⟨⟨.inl rfl, trivial, .inl rfl, trivial, hn, hnx, g1⟩, rfl⟩
theorem bytLns_ok (n : Int) : ∀ (r : List (Int × Bool)) (ns : List Int), ∀ L ∈ bytLns n ns r, LnOk L
  | [], ns, L, h => by rw [List.mem_singleton.1 h]; exact bytes_ln _ _
  | x :: r, ns, L, h => by
    unfold bytLns at h
    split at h
    · rcases List.mem_cons.1 h with rfl | h
      · exact bytes_ln _ _
      · exact bytLns_ok x.1 r [] L h
    · exact bytLns_ok n r _ L h
theorem bytLns_parts : ∀ (r : List (Int × Bool)) (n : Int) (ns : List Int), (bytLns n ns r).flatMap lnParts = (n :: (ns ++ r.map (·.1))).map byteK
  | [], n, ns => by
    have e : (bytLns n ns []).flatMap lnParts = stmParts (.bytes n ns) := by simp [bytLns, lnParts, labParts]
    rw [e, List.map_nil, List.append_nil]; rfl
  | x :: r, n, ns => by
    unfold bytLns
    split
    · have e : lnParts ⟨[], .bytes n ns⟩ = (n :: ns).map byteK := rfl
      rw [List.flatMap_cons, bytLns_parts r x.1 [], e]
      simp
    · rw [bytLns_parts r n (ns ++ [x.1])]
      simp
def bytHead (ahead : Bool) (N : Int) : List Pc := (sizePcs 1 ++ endPcs 0) ++ (if ahead = true then sizePcs N ++ endPcs 0 else [])
def bytTail (ahead : Bool) (N : Int) : List Pc := .line :: (insPcs haltB [] [] ++ (if ahead = true then [] else .line :: sizePcs N))
def bytAll (ahead : Bool) (N b0 : Int) (r : List (Int × Bool)) : List Pc := bytHead ahead N ++ (((b0, true) :: r).flatMap bytPcs ++ bytTail ahead N)
def bytHeadL (ahead : Bool) (N : Int) : List Ln := [⟨[], .size 1⟩] ++ (if ahead = true then [⟨[], .size N⟩] else [])
def bytTailL (ahead : Bool) (N : Int) : List Ln := [⟨[], .ins haltB []⟩] ++ (if ahead = true then [] else [⟨[], .size N⟩])
def bytProg (N : Int) (bs : List Int) : Prog := ⟨[haltB], N, bs⟩
theorem byt_head (ahead : Bool) {N : Int} (hN : 60 ≤ N ∧ N ≤ 65536) : Blk (bytHead ahead N) (bytHeadL ahead N) := by
  have h1 := blk_size (n := 1) (by omega) 0
  have h2 := blk_size (n := N) (by omega) 0
  unfold bytHead bytHeadL
  cases ahead
  · have := h1.append Blk.nil
    exact this
  · exact h1.append h2
theorem byt_tail (ahead : Bool) {N : Int} (hN : 60 ≤ N ∧ N ≤ 65536) : goodP (bytTail ahead N) ∧ lexK true (bytTail ahead N) = k4 :: textKeys [] (bytTailL ahead N) := by
  have hh : IsName (nameN haltB.op) := nameN_name (by decide)
  have hz : IsNum N (decN N) := decN_num (by omega)
  cases ahead
  · exact ⟨⟨trivial, trivial, hh, trivial, trivial, trivial, size_name, trivial, .inl rfl, trivial, hz, trivial, trivial⟩, rfl⟩
  · exact ⟨⟨trivial, trivial, hh, trivial, trivial⟩, rfl⟩
theorem byt_check {N : Int} (hN : 60 ≤ N ∧ N ≤ 65536) {bs : List Int} (hb : bs.length ≤ 60) : checkZ (bytProg N bs) = .ok (bytProg N bs) := by
  unfold checkZ rightZ sizesOk bytProg
  simp only [List.length_cons, List.length_nil]
  have ht : targetsOk 1 0 [haltB] = true := by decide
  rw [if_neg (by rw [ht]; decide), if_pos]
  rw [Bool.and_eq_true, Bool.and_eq_true, decide_eq_true_eq]
  exact ⟨⟨⟨by omega, by omega, by omega, by omega, by omega⟩, by decide⟩, ht⟩
theorem byt_asm {ahead : Bool} {N b0 : Int} {r : List (Int × Bool)} (hN : 60 ≤ N ∧ N ≤ 65536) (h0 : 0 ≤ b0 ∧ b0 ≤ 255) (hr : ∀ x ∈ r, 0 ≤ x.1 ∧ x.1 ≤ 255) (hl : r.length ≤ 59) (hlen : (pcText (bytAll ahead N b0 r)).length ≤ 20000) :
    asmZ (pcText (bytAll ahead N b0 r)) = .ok (bytProg N (b0 :: r.map (·.1))) := by
  have hH := byt_head ahead hN
  obtain ⟨t1, t2⟩ := byt_tail ahead hN
  obtain ⟨g1, g2⟩ := byt_good t1 rfl ((b0, true) :: r) (fun x hx => by
    rcases List.mem_cons.1 hx with rfl | hx
    · exact h0
    · exact hr x hx)
  have hg : goodP (bytAll ahead N b0 r) := goodP_append _ _ hH.good g1 (fun x hx => by rw [hH.last x hx]; trivial)
  have hTL : bytTailL ahead N ≠ [] := by simp [bytTailL]
  have hk : lexK false (bytAll ahead N b0 r) = textKeys [] (bytHeadL ahead N ++ (bytLns b0 [] r ++ bytTailL ahead N)) := by
    unfold bytAll
    rw [lexK_append, hH.keys, hH.opn, ← textKeys_flatK [] _ (by simp [hTL]), ← byt_keys t2 hTL r b0 []]
    rw [List.flatMap_cons, List.append_assoc]
    rfl
  have hok : ∀ L ∈ bytHeadL ahead N ++ (bytLns b0 [] r ++ bytTailL ahead N), LnOk L := by
    intro L hL
    rcases List.mem_append.1 hL with hL | hL
    · exact hH.ok L hL
    rcases List.mem_append.1 hL with hL | hL
    · exact bytLns_ok _ _ _ L hL
    · have hi : LnOk ⟨[], .ins haltB []⟩ := ⟨⟨by decide, fun h => absurd rfl h⟩, by simp [lnKeys, labKeys, stmKeys]⟩
      unfold bytTailL at hL
      cases ahead
      · have : L = ⟨[], .ins haltB []⟩ ∨ L = ⟨[], .size N⟩ := by simpa using hL
        rcases this with rfl | rfl
        · exact hi
        · exact size_ln N
      · have : L = ⟨[], .ins haltB []⟩ := by simpa using hL
        rw [this]; exact hi
  rw [asmZ_lines rfl hg hlen (.inl rfl) hok hk (q := bytProg N (b0 :: r.map (·.1))) ?_, byt_check hN (by simp; omega)]
  have hbytes : ∀ b ∈ b0 :: r.map (·.1), 0 ≤ b ∧ b ≤ 255 := by
    intro b hb
    rcases List.mem_cons.1 hb with rfl | hb
    · exact h0
    · obtain ⟨x, hx, rfl⟩ := List.mem_map.1 hb
      exact hr x hx
  have hins : ∀ (all pre xs : List PartK) (p : Prog), layK all pre (insK haltB :: xs) p = layK all (pre ++ [insK haltB]) xs { p with code := p.code ++ [haltB] } := by
    intro all pre xs p
    unfold insK
    rw [layK_kc, if_neg (by simp), if_neg (by simp), if_neg (by simp), if_pos rfl]
    unfold aimK
    rw [if_neg (by simp)]
    simp only
    rw [if_pos (by decide)]
  have key : ∀ all, layK all [] ((bytHeadL ahead N ++ (bytLns b0 [] r ++ bytTailL ahead N)).flatMap lnParts) ⟨[], 0, []⟩ = some (bytProg N (b0 :: r.map (·.1))) := by
    intro all
    rw [List.flatMap_append, List.flatMap_append, bytLns_parts, List.nil_append]
    cases ahead
    · show layK all [] (⟨3, 1, [], ins0, key0⟩ :: ((b0 :: r.map (·.1)).map byteK ++ [insK haltB, ⟨3, N, [], ins0, key0⟩])) _ = _
      rw [layK_sizes]
      obtain ⟨p1, h1⟩ := layK_bytes (b0 :: r.map (·.1)) all ([] ++ [⟨3, 1, [], ins0, key0⟩]) [insK haltB, ⟨3, N, [], ins0, key0⟩] { code := [], size := 1, data := [] } hbytes
      rw [h1, hins all, layK_sizes, layK_end]
      rfl
    · show layK all [] (⟨3, 1, [], ins0, key0⟩ :: ⟨3, N, [], ins0, key0⟩ :: ((b0 :: r.map (·.1)).map byteK ++ [insK haltB])) _ = _
      rw [layK_sizes, layK_sizes]
      obtain ⟨p1, h1⟩ := layK_bytes (b0 :: r.map (·.1)) all ([] ++ [⟨3, 1, [], ins0, key0⟩] ++ [⟨3, N, [], ins0, key0⟩]) [insK haltB] { code := [], size := N, data := [] } hbytes
      rw [h1, hins all, layK_end]
      rfl
  exact key _
end Go.Proofs.YtfdegdbknponkaaDoor.Words

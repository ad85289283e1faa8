/- Plain mathematics of chapter 5: sizes, addresses, what is read and what a write leaves. Nothing here speaks of one program text. -/
import Derived.Test.YtjkijjbakocilaaIsaMath
namespace Go.Proofs.Ytjkijjbakocilaa.Words
set_option maxRecDepth 100000
open Go.RowKit

/-- How many bytes an operation has. -/
def sizeZ (op : Int) : Int := if op = 26 ∨ op = 31 then 4 else if op = 27 ∨ op = 28 ∨ op = 32 then 2 else if op = 29 ∨ op = 30 ∨ op = 33 then 1 else 0
theorem sizeZ_cases (op : Int) : (sizeZ op = 4 ∧ (op = 26 ∨ op = 31)) ∨ (sizeZ op = 2 ∧ (op = 27 ∨ op = 28 ∨ op = 32)) ∨ (sizeZ op = 1 ∧ (op = 29 ∨ op = 30 ∨ op = 33)) ∨ (sizeZ op = 0 ∧ (op < 26 ∨ 33 < op)) := by
  unfold sizeZ; repeat' split
  all_goals omega
/-- What is wrong with an address. -/
def checkZ (size addr n : Int) : Int := if 1 ≤ size ∧ addr % size ≠ 0 then 1 else if n < addr + size then 2 else 0
theorem checkZ_mis {size addr n : Int} (h1 : 1 ≤ size) (h2 : addr % size ≠ 0) : checkZ size addr n = 1 := by unfold checkZ; rw [if_pos ⟨h1, h2⟩]
theorem checkZ_range {size addr n : Int} (h1 : size < 1 ∨ addr % size = 0) (h2 : n < addr + size) : checkZ size addr n = 2 := by unfold checkZ; rw [if_neg (by omega), if_pos h2]
theorem checkZ_ok {size addr n : Int} (h1 : size < 1 ∨ addr % size = 0) (h2 : addr + size ≤ n) : checkZ size addr n = 0 := by unfold checkZ; rw [if_neg (by omega), if_neg (by omega)]
theorem checkZ_zero {size addr n : Int} (h : checkZ size addr n = 0) : (size < 1 ∨ addr % size = 0) ∧ addr + size ≤ n := by
  unfold checkZ at h
  split at h
  · cases h
  · split at h
    · cases h
    · omega
theorem checkZ_cases (size addr n : Int) : checkZ size addr n = 0 ∨ checkZ size addr n = 1 ∨ checkZ size addr n = 2 := by
  unfold checkZ; repeat' split
  all_goals simp
/-- Have two stretches a byte together? -/
def overlapB (a n b m : Int) : Bool := decide (1 ≤ n ∧ 1 ≤ m ∧ a < b + m ∧ b < a + n)
theorem overlapB_no {a n b m : Int} (h : n < 1 ∨ m < 1 ∨ b + m ≤ a ∨ a + n ≤ b) : overlapB a n b m = false := decide_eq_false (by omega)
theorem overlapB_yes {a n b m : Int} (h1 : 1 ≤ n) (h2 : 1 ≤ m) (h3 : a < b + m) (h4 : b < a + n) : overlapB a n b m = true := decide_eq_true ⟨h1, h2, h3, h4⟩
/-- A word with the sign of what was read. -/
def extendZ (op w : Int) : Int := if op = 27 then (if w % 65536 < 32768 then w % 65536 else w % 65536 + 4294901760) else if op = 29 then (if w % 256 < 128 then w % 256 else w % 256 + 4294967040) else w
/-- The word that so many bytes are. -/
def wordOf (zs : List Int) (a : Nat) (k : Int) : Int :=
  if k = 1 then zs.getD a 0 else if k = 2 then zs.getD a 0 + 256 * zs.getD (a + 1) 0 else if k = 4 then zs.getD a 0 + 256 * zs.getD (a + 1) 0 + 65536 * zs.getD (a + 2) 0 + 16777216 * zs.getD (a + 3) 0 else 0
/-- What Load answers. -/
def loadZ (zs : List Int) (op addr : Int) : Int := if op < 26 ∨ 30 < op ∨ checkZ (sizeZ op) addr zs.length ≠ 0 then 0 else extendZ op (wordOf zs addr.toNat (sizeZ op))
theorem loadZ_no {zs : List Int} {op addr : Int} (h : op < 26 ∨ 30 < op ∨ checkZ (sizeZ op) addr zs.length ≠ 0) : loadZ zs op addr = 0 := by unfold loadZ; rw [if_pos h]
theorem loadZ_yes {zs : List Int} {op addr : Int} (h1 : 26 ≤ op) (h2 : op ≤ 30) (h3 : checkZ (sizeZ op) addr zs.length = 0) : loadZ zs op addr = extendZ op (wordOf zs addr.toNat (sizeZ op)) := by
  unfold loadZ; rw [if_neg]; rw [h3]; simp; omega
/-- May there be written? -/
def storeOk (size addr n : Int) : Bool := decide ((size = 1 ∨ size = 2 ∨ size = 4) ∧ 0 ≤ addr ∧ addr ≤ 4294967295 ∧ checkZ size addr n = 0)
/-- A word's lowest bytes, laid from a place on. -/
def put1 (zs : List Int) (k : Nat) (v : Int) : List Int := zs.set k (v % 256)
def put2 (zs : List Int) (k : Nat) (v : Int) : List Int := (put1 zs k v).set (k + 1) (v / 256 % 256)
def put4 (zs : List Int) (k : Nat) (v : Int) : List Int := ((put2 zs k v).set (k + 2) (v / 65536 % 256)).set (k + 3) (v / 16777216 % 256)
/-- What Store leaves. -/
def storeZ (zs : List Int) (size addr v : Int) : List Int :=
  if storeOk size addr zs.length = true then (if size = 1 then put1 zs addr.toNat v else if size = 2 then put2 zs addr.toNat v else put4 zs addr.toNat v) else zs
theorem storeZ_no {zs : List Int} {size addr v : Int} (h : storeOk size addr zs.length = false) : storeZ zs size addr v = zs := by unfold storeZ; rw [if_neg (by simp [h])]
theorem storeOk_no {size addr n : Int} (h : ¬ ((size = 1 ∨ size = 2 ∨ size = 4) ∧ 0 ≤ addr ∧ addr ≤ 4294967295 ∧ checkZ size addr n = 0)) : storeOk size addr n = false := decide_eq_false h
theorem storeOk_yes {size addr n : Int} (h : storeOk size addr n = true) : (size = 1 ∨ size = 2 ∨ size = 4) ∧ 0 ≤ addr ∧ addr ≤ 4294967295 ∧ checkZ size addr n = 0 := of_decide_eq_true h
theorem storeZ_len (zs : List Int) (size addr v : Int) : (storeZ zs size addr v).length = zs.length := by
  unfold storeZ put4 put2 put1
  split
  · split
    · simp
    · split <;> simp
  · rfl
end Go.Proofs.Ytjkijjbakocilaa.Words

/- 'Kept W x': below the heap of W nothing has turned. The condition for chains of calls that make memory. Nothing here speaks of one program. -/
import Derived.Test.YtjkijjbakocilaaBase
namespace Go.Proofs.Ytjkijjbakocilaa.Words
set_option maxRecDepth 100000
open Go.RowKit
/-- Nothing that was there has turned. -/
def Kept (W x : World) : Prop := Below W.heap.size W x
theorem Kept.refl (W : World) : Kept W W := Below.refl _ _
theorem Kept.to {W x y : World} (h : Kept W x) (hb : Below x.heap.size x y) : Kept W y := Below.trans h (hb.mono (Below.size h))
theorem Kept.drewN {W x : World} (h : Kept W x) (k : Nat) : Kept W (x.drewN k) := Below.drewN_ h k
theorem Kept.drew {W x : World} (h : Kept W x) : Kept W x.drew := Below.drew h
theorem Kept.alloc {W x : World} (h : Kept W x) (o : Obj) : Kept W (x.alloc o) := Below.alloc h (Below.size h) o
theorem Kept.cell {W x : World} (h : Kept W x) {b o : Nat} {v : Value} (hb : b < W.heap.size) (hv : W.cell? ⟨b, o, none⟩ = some v) : x.cell? ⟨b, o, none⟩ = some v := by
  rw [Below.cell (p := ⟨b, o, none⟩) h hb]; exact hv
theorem Kept.size {W x : World} (h : Kept W x) : W.heap.size ≤ x.heap.size := Below.size h
theorem Kept.row {W x : World} (h : Kept W x) {s n : Nat} {v : Value} {xs : List Value} (hr : Row W W.heap.size s v n xs) : Row x x.heap.size s v n xs := (hr.below h).more h.size
theorem Kept.trans {W x y : World} (h : Kept W x) (g : Kept x y) : Kept W y := h.to g
end Go.Proofs.Ytjkijjbakocilaa.Words

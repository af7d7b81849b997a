/-
  The program's HeadAt: the head that is read at a place. Lengths to 1048576, numbers of 64 bits.
-/
import Derived.Test.YtmipkngikimjgaaHeadI
namespace Go.Proofs.Ytmipkngikimjgaa.HeadI
open Go.RowKit Go.Proofs.Ytmipkngikimjgaa.Mem Go.Proofs.Ytmipkngikimjgaa.Pure Go.Proofs.Ytmipkngikimjgaa.Help Go.Proofs.Ytmipkngikimjgaa.FloorI
set_option linter.unusedVariables false

theorem new_free {w w1 : World} {cs : Array Value} {t : TypeId} (hb : Below (w.alloc (.cells cs t)).heap.size (w.alloc (.cells cs t)) w1) (k : Nat) : w1.frozen? ⟨w.heap.size, k, none⟩ = false := by
  rw [hb.frozen (p := ⟨w.heap.size, k, none⟩) (by show w.heap.size < _; simp)]
  unfold World.frozen?
  rw [heap_alloc_new]
  simp

/-- Behind a store of four cells into a block of the call's own. -/
def put4 (w : World) (g : Nat) (a b c d : Value) : World := (((w.setCell ⟨g, 0, none⟩ a).setCell ⟨g, 1, none⟩ b).setCell ⟨g, 2, none⟩ c).setCell ⟨g, 3, none⟩ d
theorem below_put4 {B g : Nat} {w0 w : World} (h : Below B w0 w) (hg : B ≤ g) (a b c d : Value) : Below B w0 (put4 w g a b c d) :=
  ((((h.setCell (p := ⟨g, 0, none⟩) hg a).setCell (p := ⟨g, 1, none⟩) hg b).setCell (p := ⟨g, 2, none⟩) hg c).setCell (p := ⟨g, 3, none⟩) hg d)

end Go.Proofs.Ytmipkngikimjgaa.HeadI

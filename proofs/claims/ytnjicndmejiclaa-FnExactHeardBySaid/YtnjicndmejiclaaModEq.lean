/-
  The laws' own eqThing .. eqModel at two models that read alike: they say yes. No condition.
-/
import Derived.Test.YtnjicndmejiclaaModTo
import Derived.Deep.RegionHeld3
namespace Go.Proofs.Ytnjicndmejiclaa.Mods
open Go.RowKit Go.Proofs.Ytnjicndmejiclaa.Mem Go.Proofs.Ytnjicndmejiclaa.Pure Go.Proofs.Ytnjicndmejiclaa.Help Go.Proofs.Ytnjicndmejiclaa.Seq Go.Proofs.Ytnjicndmejiclaa.Ints Go.Proofs.Ytnjicndmejiclaa.Nest
set_option linter.unusedVariables false

theorem decide_self {α : Type} [DecidableEq α] (a : α) : decide (a = a) = true := by simp

/-- .. and two of their things. -/
structure TwT (w0 : World) (va vb x y x' y' : Value) (K : List Th) (s : Th) (wr : World) : Prop where
  t : TwoG 5 thS w0 va vb K wr
  x : RdR wr 0 wr.heap.size 1 x (intR s.f)
  y : Rd wr 0 wr.heap.size y s.d
  x2 : RdR wr 0 wr.heap.size 1 x' (intR s.f)
  y2 : Rd wr 0 wr.heap.size y' s.d
theorem TwT.step {w0 wr w2 : World} {va vb x y x' y' : Value} {K : List Th} {s : Th} (h : Hid (TwT w0 va vb x y x' y' K s wr)) (hb : Below wr.heap.size wr w2) : Hid (TwT w0 va vb x y x' y' K s w2) :=
  Lib.hid ⟨(TwoG.step shTh (Lib.hid h.out.t) hb).out, Ints.rdR_all (h.out.x.below hb), rd_all (h.out.y.below hb), Ints.rdR_all (h.out.x2.below hb), rd_all (h.out.y2.below hb)⟩

/-- .. and two of their rooms. -/
structure TwM (w0 : World) (va vb x x' : Value) (K : List Rm) (s : Rm) (wr : World) : Prop where
  t : TwoG 4 rmS w0 va vb K wr
  x : RdG 5 thS wr 0 wr.heap.size x s.T
  x2 : RdG 5 thS wr 0 wr.heap.size x' s.T
theorem TwM.step {w0 wr w2 : World} {va vb x x' : Value} {K : List Rm} {s : Rm} (h : Hid (TwM w0 va vb x x' K s wr)) (hb : Below wr.heap.size wr w2) : Hid (TwM w0 va vb x x' K s w2) :=
  Lib.hid ⟨(TwoG.step shRm (Lib.hid h.out.t) hb).out, (h.out.x.below shTh hb).all shTh, (h.out.x2.below shTh hb).all shTh⟩

end Go.Proofs.Ytnjicndmejiclaa.Mods

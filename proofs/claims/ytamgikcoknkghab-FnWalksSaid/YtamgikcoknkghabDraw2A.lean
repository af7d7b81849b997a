/-
  The draws of chapter 2, whole: a head; a floor with a head on it, and a place. What is said of them is that their numbers are of 64 bits, their bytes few.
-/
import Derived.Test.YtamgikcoknkghabDraw2
namespace Go.Proofs.Ytamgikcoknkghab.Cur
open Go.RowKit Go.Proofs.Ytamgikcoknkghab.Mem Go.Proofs.Ytamgikcoknkghab.Pure Go.Proofs.Ytamgikcoknkghab.Help Go.Proofs.Ytamgikcoknkghab.FloorI Go.Proofs.Ytamgikcoknkghab.HeadI
set_option linter.unusedVariables false

/-- Some head. -/
def RetDH (w : World) (e : Ending) (w' : World) : Prop :=
  ∃ s o l r, e = .returned (.agg #[.int .i64 s, .int .i64 o, .int .i64 l, .int .i64 r]) ∧ I64 s ∧ I64 o ∧ I64 l ∧ I64 r ∧ Below w.heap.size w w'
/-- Some new row of bytes, and a number. -/
def RetFA (w : World) (e : Ending) (w' : World) : Prop :=
  ∃ v L a, e = .returned (.tuple #[v, .int .i64 a]) ∧ Own w' w.heap.size w'.heap.size v L ∧ Byt L ∧ L.length ≤ 1000 ∧ I64 a ∧ Below w.heap.size w w'

end Go.Proofs.Ytamgikcoknkghab.Cur

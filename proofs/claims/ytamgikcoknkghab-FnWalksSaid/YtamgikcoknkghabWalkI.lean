/-
  The program's behind and placeAt. Lengths to 1048576, numbers of 64 bits.
-/
import Derived.Test.YtamgikcoknkghabHeadA
import Derived.Test.YtamgikcoknkghabPure3
namespace Go.Proofs.Ytamgikcoknkghab.WalkI
open Go.RowKit Go.Proofs.Ytamgikcoknkghab.Mem Go.Proofs.Ytamgikcoknkghab.Pure Go.Proofs.Ytamgikcoknkghab.Help Go.Proofs.Ytamgikcoknkghab.FloorI Go.Proofs.Ytamgikcoknkghab.HeadI
set_option linter.unusedVariables false

theorem behind (w : World) {a s o l r : Int} (h1 : 0 ≤ a) (h2 : a ≤ 1024) (h3 : 0 ≤ s) (h4 : s ≤ 1000) :
    Calls Try.prog 49 #[.agg #[.int .i64 a, .int .i64 s, .int .i64 o, .int .i64 l, .int .i64 r]] w (RetV w (.int .i64 (a + s))) := by
  go_enter Try.func49, Try.ntmps49
  go_wp2
  go_ret
  exact ⟨rfl, (Below.refl _ _).alloc (Nat.le_refl _) _⟩

/-- Behind a store of five cells into a block of the call's own. -/
def put5 (w : World) (g : Nat) (a b c d e : Value) : World := ((((w.setCell ⟨g, 0, none⟩ a).setCell ⟨g, 1, none⟩ b).setCell ⟨g, 2, none⟩ c).setCell ⟨g, 3, none⟩ d).setCell ⟨g, 4, none⟩ e
theorem below_put5 {B g : Nat} {w0 w : World} (h : Below B w0 w) (hg : B ≤ g) (a b c d e : Value) : Below B w0 (put5 w g a b c d e) :=
  (below_put4 h hg a b c d).setCell (p := ⟨g, 4, none⟩) hg e

/-- A place comes back, and a bool. -/
def RetPB (w : World) (p : Pl) (b : Bool) (e : Ending) (w' : World) : Prop :=
  e = .returned (.tuple #[.agg #[.int .i64 p.a, .int .i64 p.h.s, .int .i64 p.h.o, .int .i64 p.h.l, .int .i64 p.h.r], .bool b]) ∧ Below w.heap.size w w'

set_option maxHeartbeats 1000000 in
theorem placeAt (w : World) {lo hi : Nat} {v : Value} {L : List Int} (h : Rd w lo hi v L) (hL : L.length ≤ 1048576) (hy : Byt L) {a : Int} (ha : I64 a) :
    Calls Try.prog 60 #[v, .int .i64 a] w (RetPB w ⟨a, headAtH L a⟩ (headAtB L a)) := by
  have HQ := Lib.hid (fun w' (hb : Below w.heap.size w w') => headAt w' (h.below hb) hL hy ha)
  obtain ⟨D, hD⟩ : ∃ D, D = headAtH L a := ⟨_, rfl⟩
  obtain ⟨X, hX⟩ : ∃ X, X = headAtB L a := ⟨_, rfl⟩
  rw [← hD, ← hX] at HQ ⊢
  clear hD hX h
  obtain ⟨s, o, l, r⟩ := D
  go_enter Try.func60, Try.ntmps60
  go_wp2_with fail
  refine (HQ.out _ ((Below.refl _ _).alloc (Nat.le_refl _) _)).mono ?_
  rintro e w1 ⟨rfl, hb1⟩
  have HZ : Hid (Blk w1 w.heap.size #[.int .i64 0, .int .i64 0, .int .i64 0, .int .i64 0, .int .i64 0] 46) := Lib.hid ((Blk.new w _ _).below hb1)
  have HB : Hid (Below w.heap.size w w1) := Lib.hid (((Below.refl _ _).alloc (Nat.le_refl _) _).trans (hb1.mono (by simp)))
  have hlt := HZ.out.lt
  clear hb1
  have c0 := HZ.out.cell 0
  have c1 := HZ.out.cell 1
  have c2 := HZ.out.cell 2
  have c3 := HZ.out.cell 3
  have c4 := HZ.out.cell 4
  have f0 := HZ.out.free 0
  have f1 := HZ.out.free 1
  have f2 := HZ.out.free 2
  have f3 := HZ.out.free 3
  have f4 := HZ.out.free 4
  go_wp2
  refine bodyPost_ret (v := .tuple #[.agg #[.int .i64 a, .int .i64 s, .int .i64 o, .int .i64 l, .int .i64 r], .bool X]) (by simp [results, Try.results60, go_sem, c0, c1, c2, c3, c4, hlt]) rfl ?_
  have h5 := below_put5 HB.out (Nat.le_refl _) (.int .i64 a) (.int .i64 s) (.int .i64 o) (.int .i64 l) (.int .i64 r)
  exact ⟨rfl, h5.alloc h5.size _⟩
end Go.Proofs.Ytamgikcoknkghab.WalkI

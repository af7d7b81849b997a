/-
  FnExactHeadOk: whatever the head, the program answers as the model does. No condition.
-/
import Derived.Test.YtamgikcoknkghabHeadS
namespace Go.Proofs.Ytamgikcoknkghab.fnExactHeadOkW
open Go.RowKit Go.Proofs.Ytamgikcoknkghab.Mem Go.Proofs.Ytamgikcoknkghab.Pure Go.Proofs.Ytamgikcoknkghab.Help Go.Proofs.Ytamgikcoknkghab.FloorI Go.Proofs.Ytamgikcoknkghab.HeadI
set_option linter.unusedVariables false

set_option maxRecDepth 100000 in
set_option maxHeartbeats 1000000 in
theorem walk (s o l r : Int) (w : World) :
    Calls Try.prog 3 #[.agg #[.int .i64 s, .int .i64 o, .int .i64 l, .int .i64 r]] w fun e w' => e = .returned (.bool true) ∧ Below w.heap.size w w' := by
  have HI := Lib.hid (fun w' : World => HeadI.headOk w' (s := s) (o := o) (l := l) (r := r))
  have HP := Lib.hid (fun w' : World => HeadS.headOk w' (s := s) (o := o) (l := l) (r := r))
  obtain ⟨X, hX⟩ : ∃ X, X = headB s o l r := ⟨_, rfl⟩
  rw [← hX] at HI HP
  clear hX
  go_enter Try.func3, Try.ntmps3
  go_wp2_with fail
  refine (HeadS.toHead _).mono ?_
  rintro e w1 ⟨rfl, hb1⟩
  have HZ : Hid (Blk w1 w.heap.size #[.int .i64 s, .int .i64 o, .int .i64 l, .int .i64 r] 23) := Lib.hid ((Blk.new w _ _).below hb1)
  have HB1 : Hid (Below w.heap.size w w1) := Lib.hid (((Below.refl _ _).alloc (Nat.le_refl _) _).trans (hb1.mono (by simp)))
  have HS1 := Lib.hid HB1.out.size; clear hb1
  go_wp2_with fail
  refine (HP.out _).mono ?_
  rintro e w2 ⟨rfl, hb2⟩
  have HB2 := Lib.hid hb2; have HS2 := Lib.hid hb2.size; clear hb2
  obtain ⟨c0, c1, c2, c3⟩ := (HZ.out.below HB2.out).cells4
  go_wp2_with fail
  refine (HeadS.toHead _).mono ?_
  rintro e w3 ⟨rfl, hb3⟩
  have HB3 := Lib.hid hb3; have HS3 := Lib.hid hb3.size; clear hb3 c0 c1 c2 c3
  go_wp2_with fail
  refine (HI.out _).mono ?_
  rintro e w4 ⟨rfl, hb4⟩
  have HB4 := Lib.hid hb4; have HS4 := Lib.hid hb4.size; clear hb4
  cases X
  · go_wp2
    go_ret
    exact ⟨rfl, (below_then (below_then (below_then (below_then (Below.refl _ _) HB1.out (Nat.le_refl _)) HB2.out (Nat.le_refl _)) HB3.out (Nat.le_refl _)) HB4.out (Nat.le_refl _))⟩
  · go_wp2
    go_ret
    exact ⟨rfl, (below_then (below_then (below_then (below_then (Below.refl _ _) HB1.out (Nat.le_refl _)) HB2.out (Nat.le_refl _)) HB3.out (Nat.le_refl _)) HB4.out (Nat.le_refl _))⟩
end Go.Proofs.Ytamgikcoknkghab.fnExactHeadOkW

/-
  FnExactCostOf: whatever the arguments, the program answers as the model does. No condition.
-/
import Derived.Test.YtmipkngikimjgabReachI
import Derived.Test.YtmipkngikimjgabReachS
import Derived.OpenShut
namespace Go.Proofs.Ytmipkngikimjgab.fnExactCostOfW
open Go.RowKit Go.Proofs.Ytmipkngikimjgab.Mem Go.Proofs.Ytmipkngikimjgab.Pure Go.Proofs.Ytmipkngikimjgab.Help Go.Proofs.Ytmipkngikimjgab.FloorI Go.Proofs.Ytmipkngikimjgab.Seq Go.Proofs.Ytmipkngikimjgab.Ints Go.Proofs.Ytmipkngikimjgab.Webs Go.Proofs.Ytmipkngikimjgab.HelpK
set_option linter.unusedVariables false

set_option maxHeartbeats 400000 in
theorem walk (a0 a1 : Int) (w : World) (q0 : (Lit.int .i64 a0).wf = true) (q1 : (Lit.int .i64 a1).wf = true) :
    Calls Try.prog 7 #[.int .i64 a0, .int .i64 a1] w fun e w' => e = .returned (.bool true) ∧ Below w.heap.size w w' := by
  have i0 : I64 a0 := bounds_i64 q0
  have i1 : I64 a1 := bounds_i64 q1
  have HI := Lib.hid (fun w' : World => ReachI.costOf w' i0 i1)
  have HP := Lib.hid (fun w' : World => ReachS.costOf w' (n := a0) (r := a1))
  obtain ⟨R0, hR0⟩ : ∃ R, R = costI a0 a1 := ⟨_, rfl⟩
  rw [← hR0] at HI HP
  clear hR0 q0 q1 i0 i1
  go_enter Try.func7, Try.ntmps7
  go_wp2_with fail
  refine (HP.out _).mono ?_
  rintro e w1 ⟨rfl, hb1⟩
  have HB1 := Lib.hid hb1
  clear hb1
  go_wp2_with fail
  refine (HI.out _).mono ?_
  rintro e w2 ⟨rfl, hb2⟩
  have HB2 := Lib.hid hb2
  clear hb2
  go_wp2
  go_ret
  exact ⟨rfl, below_then HB1.out HB2.out (Nat.le_refl _)⟩
end Go.Proofs.Ytmipkngikimjgab.fnExactCostOfW

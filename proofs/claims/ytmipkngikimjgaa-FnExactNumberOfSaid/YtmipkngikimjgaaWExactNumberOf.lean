/-
  FnExactNumberOf: whatever the ticket, the program gives the number that the model gives. No condition.
-/
import Derived.Test.YtmipkngikimjgaaTickS
namespace Go.Proofs.Ytmipkngikimjgaa.fnExactNumberOfW
open Go.RowKit Go.Proofs.Ytmipkngikimjgaa.Mem Go.Proofs.Ytmipkngikimjgaa.Pure Go.Proofs.Ytmipkngikimjgaa.Help Go.Proofs.Ytmipkngikimjgaa.FloorI Go.Proofs.Ytmipkngikimjgaa.TickI
set_option linter.unusedVariables false

set_option maxRecDepth 100000 in
set_option maxHeartbeats 1000000 in
theorem walk (t g s : Int) (w : World) :
    Calls Try.prog 5 #[.agg #[.int .i64 t, .int .i64 g, .int .i64 s]] w fun e w' => e = .returned (.bool true) ∧ Below w.heap.size w w' := by
  have HI := Lib.hid (fun w' : World => TickI.numberOf w' (t := t) (g := g) (s := s))
  have HP := Lib.hid (fun w' : World => TickS.numberOf w' (t := t) (g := g) (s := s))
  obtain ⟨X, hX⟩ : ∃ X, X = numT t g s := ⟨_, rfl⟩
  rw [← hX] at HI HP
  clear hX
  go_enter Try.func5, Try.ntmps5
  go_wp2_with fail
  refine (TickS.toTicket _).mono ?_
  rintro e w1 ⟨rfl, hb1⟩
  have HZ : Hid (Blk w1 w.heap.size #[.int .i64 t, .int .i64 g, .int .i64 s] 32) := Lib.hid ((Blk.new w _ _).below hb1)
  have HB1 : Hid (Below w.heap.size w w1) := Lib.hid (below_then ((Below.refl _ _).alloc (Nat.le_refl _) _) hb1 (Nat.le_refl _))
  clear hb1
  go_wp2_with fail
  refine (HP.out _).mono ?_
  rintro e w2 ⟨rfl, hb2⟩
  have HB2 := Lib.hid (below_then HB1.out hb2 (Nat.le_refl _))
  obtain ⟨c0, c1, c2⟩ := Blk.cells3 (HZ.out.below hb2)
  clear hb2
  go_wp2_with fail
  refine (TickS.toTicket _).mono ?_
  rintro e w3 ⟨rfl, hb3⟩
  have HB3 := Lib.hid (below_then HB2.out hb3 (Nat.le_refl _))
  clear hb3 c0 c1 c2
  go_wp2_with fail
  refine (HI.out _).mono ?_
  rintro e w4 ⟨rfl, hb4⟩
  have HB4 := Lib.hid (below_then HB3.out hb4 (Nat.le_refl _))
  clear hb4
  go_wp2
  go_ret
  exact ⟨rfl, HB4.out⟩
end Go.Proofs.Ytmipkngikimjgaa.fnExactNumberOfW

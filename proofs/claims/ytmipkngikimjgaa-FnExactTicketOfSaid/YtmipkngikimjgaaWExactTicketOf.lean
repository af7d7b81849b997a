/-
  FnExactTicketOf: whatever the number, the program answers as the model does. No condition.
-/
import Derived.Test.YtmipkngikimjgaaTickS
import Derived.Test.YtmipkngikimjgaaIn
namespace Go.Proofs.Ytmipkngikimjgaa.fnExactTicketOfW
open Go.RowKit Go.Proofs.Ytmipkngikimjgaa.Mem Go.Proofs.Ytmipkngikimjgaa.Pure Go.Proofs.Ytmipkngikimjgaa.Help Go.Proofs.Ytmipkngikimjgaa.FloorI Go.Proofs.Ytmipkngikimjgaa.TickI
set_option linter.unusedVariables false

set_option maxRecDepth 100000 in
set_option maxHeartbeats 1000000 in
theorem walk (n : Int) (w : World) (q : (Lit.int .i64 n).wf = true) :
    Calls Try.prog 6 #[.int .i64 n] w fun e w' => e = .returned (.bool true) ∧ Below w.heap.size w w' := by
  have hn : I64 n := bounds_i64 q
  have HI := Lib.hid (fun w' : World => TickI.ticketOf w' hn)
  have HP := Lib.hid (fun w' : World => TickS.ticketOf w' hn)
  obtain ⟨X, hX⟩ : ∃ X, X = tickAtB n := ⟨_, rfl⟩
  obtain ⟨D, hD⟩ : ∃ X, X = tickAt n := ⟨_, rfl⟩
  rw [← hX, ← hD] at HI HP
  clear hX hD hn q
  obtain ⟨t, g, s⟩ := D
  go_enter Try.func6, Try.ntmps6
  go_wp2_with fail
  refine (HP.out _).mono ?_
  rintro e w1 ⟨rfl, hb1⟩
  have hn1 : Below w1.heap.size w1 (w1.alloc (.cells #[.int .i64 t, .int .i64 g, .int .i64 s] 25)) := (Below.refl _ _).alloc (Nat.le_refl _) _
  have HB1 := Lib.hid (below_then hb1 hn1 (Nat.le_refl _))
  clear hb1 hn1
  go_wp2_with fail
  refine (HI.out _).mono ?_
  rintro e w2 ⟨rfl, hb2⟩
  have HZ2 : Hid (Blk w2 w1.heap.size #[.int .i64 t, .int .i64 g, .int .i64 s] 25) := Lib.hid ((Blk.new w1 _ _).below hb2)
  have hn2 : Below w2.heap.size w2 (w2.alloc (.cells #[.int .i64 t, .int .i64 g, .int .i64 s] 25)) := (Below.refl _ _).alloc (Nat.le_refl _) _
  have HB2 := Lib.hid (below_then (below_then HB1.out hb2 (Nat.le_refl _)) hn2 (Nat.le_refl _))
  have hlt := HZ2.out.lt
  obtain ⟨c0, c1, c2⟩ := Blk.cells3 HZ2.out
  clear hb2 hn2
  go_wp2_with fail
  refine (TickS.eqTicket_same _).mono ?_
  rintro e w3 ⟨rfl, hb3⟩
  have HB3 := Lib.hid (below_then HB2.out hb3 (Nat.le_refl _))
  clear hb3 c0 c1 c2 hlt
  cases X
  · go_wp2
    go_ret
    exact ⟨rfl, HB3.out⟩
  · go_wp2
    go_ret
    exact ⟨rfl, HB3.out⟩
end Go.Proofs.Ytmipkngikimjgaa.fnExactTicketOfW

/-
  The laws' own counting of models: szThing .. szModel: what is left, or -1. No condition but that what is left is at most 1048576.
-/
import Derived.Test.YtnjicndmejiclaaModTo
namespace Go.Proofs.Ytnjicndmejiclaa.Mods
open Go.RowKit Go.Proofs.Ytnjicndmejiclaa.Mem Go.Proofs.Ytnjicndmejiclaa.Pure Go.Proofs.Ytnjicndmejiclaa.Help Go.Proofs.Ytnjicndmejiclaa.Seq Go.Proofs.Ytnjicndmejiclaa.Ints Go.Proofs.Ytnjicndmejiclaa.Nest
set_option linter.unusedVariables false

/-- What is left of m when q are taken. -/
def left (m : Int) (q : Nat) : Int := if m < (q : Int) then -1 else m - q

set_option maxHeartbeats 400000 in
theorem szByteS (w : World) {A : Option Addr} {n c : Nat} {m : Int} (hn : n ≤ 9223372036854775807) (hm : 0 ≤ m ∧ m ≤ 1048576) :
    Calls Try.prog 28 #[.slice A n c, .int .i64 m] w (RetV w (.int .i64 (if m < (n : Int) then -1 else m - n))) := by
  obtain ⟨m1, m2⟩ := hm
  by_cases hq : m < (n : Int)
  · rw [if_pos hq]
    go_enter Try.func28, Try.ntmps28
    go_wp2
    go_ret
    exact ⟨rfl, Below.refl _ _⟩
  · rw [if_neg hq]
    go_enter Try.func28, Try.ntmps28
    go_wp2
    go_ret
    exact ⟨rfl, Below.refl _ _⟩

end Go.Proofs.Ytnjicndmejiclaa.Mods

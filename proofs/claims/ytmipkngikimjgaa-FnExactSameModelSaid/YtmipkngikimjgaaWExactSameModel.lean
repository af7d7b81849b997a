/-
  FnExactSameModel: whatever the two models, the program answers as the model does, and leaves its arguments. No condition.
-/
import Derived.Test.YtmipkngikimjgaaSameL
import Derived.Test.YtmipkngikimjgaaModI
import Derived.Test.YtmipkngikimjgaaOpenM
namespace Go.Proofs.Ytmipkngikimjgaa.fnExactSameModelW
open Go.RowKit Go.Proofs.Ytmipkngikimjgaa.Mem Go.Proofs.Ytmipkngikimjgaa.Pure Go.Proofs.Ytmipkngikimjgaa.Nest Go.Proofs.Ytmipkngikimjgaa.Mods
set_option linter.unusedVariables false

theorem walk (s0 : Int) (a0 : Option Addr) (l0 c0 : Nat) (K0 : List Rm) (n0 : Int) (s1 : Int) (a1 : Option Addr) (l1 c1 : Nat) (K1 : List Rm) (n1 : Int) (w : World)
    (q0 : RdG 4 rmS w 0 w.heap.size (.slice a0 l0 c0) K0) (o0 : ∀ k ∈ K0, RmOk k) (q1 : RdG 4 rmS w 0 w.heap.size (.slice a1 l1 c1) K1) (o1 : ∀ k ∈ K1, RmOk k) :
    Calls Try.prog 7 #[.agg #[.int .i64 s0, .slice a0 l0 c0, .int .i64 n0], .agg #[.int .i64 s1, .slice a1 l1 c1, .int .i64 n1]] w fun e w' => e = .returned (.bool true) ∧ Below w.heap.size w w' := by
  by_cases h0 : mdC ⟨s0, K0, n0⟩ ≤ 1048576
  case neg => exact SameL.big0 s0 a0 l0 c0 K0 n0 s1 a1 l1 c1 K1 n1 w q0 o0 q1 o1 (by omega)
  by_cases h1 : mdC ⟨s0, K0, n0⟩ + mdC ⟨s1, K1, n1⟩ ≤ 1048576
  case neg => exact SameL.big1 s0 a0 l0 c0 K0 n0 s1 a1 l1 c1 K1 n1 w q0 o0 q1 o1 h0 (by omega)
  exact SameL.small s0 a0 l0 c0 K0 n0 s1 a1 l1 c1 K1 n1 w q0 o0 q1 o1 h1 (fun w lo hi lo2 hi2 va vb ha hb => ModI.sameModel w ha hb)
end Go.Proofs.Ytmipkngikimjgaa.fnExactSameModelW

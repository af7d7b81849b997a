/-
  FnExactHeardBy: whatever the arguments, the program answers as the model does, leaves its arguments, and owns its answer. No condition.
-/
import Derived.Test.YtmipkngikimjgaaHeardL
import Derived.Test.YtmipkngikimjgaaHeardI
import Derived.Test.YtmipkngikimjgaaOpenH
namespace Go.Proofs.Ytmipkngikimjgaa.fnExactHeardByW
open Go.RowKit Go.Proofs.Ytmipkngikimjgaa.Mem Go.Proofs.Ytmipkngikimjgaa.Pure Go.Proofs.Ytmipkngikimjgaa.Nest Go.Proofs.Ytmipkngikimjgaa.Ans Go.Proofs.Ytmipkngikimjgaa.Ord Go.Proofs.Ytmipkngikimjgaa.HeardL
set_option linter.unusedVariables false

theorem walk (a0 : Option Addr) (l0 c0 : Nat) (K0 : List Od) (a1 : Option Addr) (l1 c1 : Nat) (K1 : List An) (t : Int) (w : World) (q0 : IsOrds w a0 l0 c0 K0) (q1 : IsAns w a1 l1 c1 K1) (qt : (Lit.int .i64 t).wf = true) :
    Calls Try.prog 8 #[.slice a0 l0 c0, .slice a1 l1 c1, .int .i64 t] w fun e w' => e = .returned (.bool true) ∧ Below w.heap.size w w' := by
  by_cases h0 : odsC K0 ≤ 1048576
  case neg => exact HeardL.big0 a0 l0 c0 K0 a1 l1 c1 K1 t w q0.rd q0.ok q1.rd (by omega)
  by_cases h1 : odsC K0 + ansC K1 ≤ 1048576
  case neg => exact HeardL.big1 a0 l0 c0 K0 a1 l1 c1 K1 t w q0.rd q0.ok q1.rd h0 (by omega)
  refine HeardL.small a0 l0 c0 K0 a1 l1 c1 K1 t w q0.rd q0.ok q1.rd h1 (fun w lo hi lo2 hi2 va vb ha hb hL hM hF => (HeardI.heardBy w ha hb hM hF).mono ?_)
  rintro e w' ⟨v, rfl, h⟩
  exact ⟨v, rfl, h.own, h.below⟩
end Go.Proofs.Ytmipkngikimjgaa.fnExactHeardByW

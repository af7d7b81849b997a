/-
  The model's chapter 1 (package spec): what each of its functions hands back, in the words of Pure. Lengths to 1048576, numbers of 64 bits.
-/
import Derived.Test.YtmipkngikimjgabFloorI
namespace Go.Proofs.Ytmipkngikimjgab.FloorS
open Go.RowKit Go.Proofs.Ytmipkngikimjgab.Mem Go.Proofs.Ytmipkngikimjgab.Pure Go.Proofs.Ytmipkngikimjgab.Help Go.Proofs.Ytmipkngikimjgab.FloorI
set_option linter.unusedVariables false

set_option maxHeartbeats 400000 in
theorem l1In (w : World) {x a b : Int} : Calls Try.prog 38 #[.int .i64 x, .int .i64 a, .int .i64 b] w (fun e w' => e = .returned (.bool (decide (a ≤ x ∧ x ≤ b))) ∧ w = w') := by
  by_cases h1 : a ≤ x
  · by_cases h2 : x ≤ b
    · rw [decide_eq_true ⟨h1, h2⟩]
      go_enter Try.func38, Try.ntmps38
      go_wp2
      go_ret
      exact ⟨rfl, rfl⟩
    · rw [decide_eq_false (by omega)]
      go_enter Try.func38, Try.ntmps38
      go_wp2
      go_ret
      exact ⟨rfl, rfl⟩
  · rw [decide_eq_false (by omega)]
    go_enter Try.func38, Try.ntmps38
    go_wp2
    go_ret
    exact ⟨rfl, rfl⟩

theorem part_like {A A' : Option Addr} {m c c' n' a n : Nat} (hn : n' = n) (hc : n ≤ c') (hm : c' ≤ maxLen) (hA : 0 < n → A' = A.map (·.add a)) : PartIn (.slice A m c) (.slice A' n' c') a n := by
  subst hn
  exact ⟨A, m, c, A', c', rfl, rfl, hc, hm, hA⟩

end Go.Proofs.Ytmipkngikimjgab.FloorS

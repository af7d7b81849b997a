/-
  The model's chapter 1 (package spec): what each of its functions hands back, in the words of Pure. Lengths to 1048576, numbers of 64 bits.
-/
import Derived.Test.YtmipkngikimjgaaFloorI
namespace Go.Proofs.Ytmipkngikimjgaa.FloorS
open Go.RowKit Go.Proofs.Ytmipkngikimjgaa.Mem Go.Proofs.Ytmipkngikimjgaa.Pure Go.Proofs.Ytmipkngikimjgaa.Help Go.Proofs.Ytmipkngikimjgaa.FloorI
set_option linter.unusedVariables false

set_option maxHeartbeats 400000 in
theorem l1Bytes (w : World) {lo hi : Nat} {v : Value} {L : List Int} (h : Rd w lo hi v L) (hL : L.length ≤ 1048576) :
    Calls Try.prog 55 #[v] w (RetB w L) := by
  have HR := Lib.hid h
  clear h
  have ho := own_made w w.heap.size (Nat.le_refl _)
  have hr := HR.out.below ((Below.refl _ _).alloc (Nat.le_refl _) (.cells #[] 5))
  have HB : Hid (Below w.heap.size w (w.alloc (.cells #[] 5))) := (Below.refl _ _).alloc (Nat.le_refl _) _
  go_enter Try.func55, Try.ntmps55
  go_wp2_with (at_builtin; refine wpList_append_b rfl _ _ 22 rfl Try.underlying22 infoB ho hr rfl rfl ?_ ?_ ?_)
  · simp; omega
  · simp
  · intro v' w2 ho2 ht2
    have HO := Lib.hid ho2
    have HT := Lib.hid ht2
    clear ho2 ht2 ho hr
    go_wp2
    go_ret
    exact ⟨_, rfl, HO.out, below_touch HB.out HT.out (Nat.le_refl _) (Nat.le_refl _)⟩

set_option maxHeartbeats 400000 in
theorem l1In (w : World) {x a b : Int} : Calls Try.prog 47 #[.int .i64 x, .int .i64 a, .int .i64 b] w (fun e w' => e = .returned (.bool (decide (a ≤ x ∧ x ≤ b))) ∧ w = w') := by
  by_cases h1 : a ≤ x
  · by_cases h2 : x ≤ b
    · rw [decide_eq_true ⟨h1, h2⟩]
      go_enter Try.func47, Try.ntmps47
      go_wp2
      go_ret
      exact ⟨rfl, rfl⟩
    · rw [decide_eq_false (by omega)]
      go_enter Try.func47, Try.ntmps47
      go_wp2
      go_ret
      exact ⟨rfl, rfl⟩
  · rw [decide_eq_false (by omega)]
    go_enter Try.func47, Try.ntmps47
    go_wp2
    go_ret
    exact ⟨rfl, rfl⟩

theorem part_like {A A' : Option Addr} {m c c' n' a n : Nat} (hn : n' = n) (hc : n ≤ c') (hm : c' ≤ maxLen) (hA : 0 < n → A' = A.map (·.add a)) : PartIn (.slice A m c) (.slice A' n' c') a n := by
  subst hn
  exact ⟨A, m, c, A', c', rfl, rfl, hc, hm, hA⟩

end Go.Proofs.Ytmipkngikimjgaa.FloorS

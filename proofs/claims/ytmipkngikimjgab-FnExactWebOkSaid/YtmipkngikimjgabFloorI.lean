/-
  The program's own chapter 1: what each of its functions hands back, in the words of Pure. Lengths to 1048576, numbers of 64 bits.
-/
import Derived.Test.YtmipkngikimjgabLaws
import Derived.Test.YtmipkngikimjgabPure
import Derived.Test.YtmipkngikimjgabHelp
namespace Go.Proofs.Ytmipkngikimjgab.FloorI
open Go.RowKit Go.Proofs.Ytmipkngikimjgab.Mem Go.Proofs.Ytmipkngikimjgab.Pure Go.Proofs.Ytmipkngikimjgab.Help
set_option linter.unusedVariables false

def I64 (x : Int) : Prop := -9223372036854775808 ≤ x ∧ x ≤ 9223372036854775807
theorem sizeB : (Try.prog.info? 5).map (·.size) = some 1 := by kernel_rfl
theorem zeroB (w : World) : (zeroValue 5).run Try.prog w = .ok (.int .u8 0) w := by kernel_rfl

/-- The part of v from a on, n long. -/
def RetP (w : World) (v : Value) (a n : Nat) (e : Ending) (w' : World) : Prop := ∃ d, e = .returned d ∧ PartIn v d a n ∧ w = w'

theorem there_nat {L : List Int} {a n : Int} (h : there L a n = true) : ∃ k m : Nat, a = k ∧ n = m ∧ k + m ≤ L.length ∧ L.length ≤ 1024 := by
  have := there_iff.1 h
  exact ⟨a.toNat, n.toNat, by omega, by omega, by omega, by omega⟩

/-- An empty slice that is made by a literal. -/
theorem own_made (w : World) (lo : Nat) (h : lo ≤ w.heap.size) : Own (w.alloc (.cells #[] 5)) lo (w.alloc (.cells #[] 5)).heap.size (.slice (some ⟨w.heap.size, 0, none⟩) 0 0) [] :=
  .inr ⟨w.heap.size, 0, #[], rfl, h, by simp, heap_alloc_new w _, Nat.le_refl _, Nat.zero_le _, rfl, rfl⟩

end Go.Proofs.Ytmipkngikimjgab.FloorI

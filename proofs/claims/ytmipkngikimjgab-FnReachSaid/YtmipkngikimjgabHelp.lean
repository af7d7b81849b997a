/-
  The laws' own helpers on byte slices: toByteS copies, eqByteS compares, markByteS writes marks, heldByteS asks for them. Lengths to 1048576.
-/
import Derived.Test.YtmipkngikimjgabMem
import Derived.Test.YtmipkngikimjgabProg
import Derived.Deep.QuietTactic
import Derived.BigQuiet
import Derived.Lib.Hide
namespace Go.Proofs.Ytmipkngikimjgab.Help
open Go.RowKit Go.Proofs.Ytmipkngikimjgab.Mem
set_option linter.unusedVariables false

theorem infoB : (Try.prog.info? 5).map (fun i => (i.zero, i.size, i.bytes)) = some (some (.int .u8 0), 1, 1) := by kernel_rfl

theorem int_eq {k : IntKind} {a b : Int} (h : a = b) : Value.int k a = .int k b := by rw [h]

theorem take_step {LA LB : List Int} {k : Nat} (hl : LA.length = LB.length) (hk : k < LA.length) (h : LA.take k = LB.take k) (hx : LA.getD k 0 = LB.getD k 0) : LA.take (k + 1) = LB.take (k + 1) := by
  rw [List.take_succ_eq_append_getElem hk, List.take_succ_eq_append_getElem (show k < LB.length by omega), h]
  rw [List.getD_eq_getElem?_getD, List.getElem?_eq_getElem hk, List.getD_eq_getElem?_getD, List.getElem?_eq_getElem (by omega)] at hx
  rw [show LA[k] = LB[k]'(by omega) from hx]
theorem ne_at {LA LB : List Int} {k : Nat} (hx : ¬ LA.getD k 0 = LB.getD k 0) : decide (LA = LB) = false := by
  simp only [decide_eq_false_iff_not]
  rintro rfl
  exact hx rfl

theorem bytes_beq (a b : ByteArray) : (a.toList == b.toList) = decide (a = b) := by
  rw [ByteArray.toList_eq, ByteArray.toList_eq, Bool.eq_iff_iff]
  simp only [beq_iff_eq, decide_eq_true_eq]
  exact ⟨fun h => WideShapes.bytes_inj h, fun h => by rw [h]⟩

end Go.Proofs.Ytmipkngikimjgab.Help

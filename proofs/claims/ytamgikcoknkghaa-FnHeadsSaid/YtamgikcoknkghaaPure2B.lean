/-
  Chapter 2 on lists: the head of a head's bytes is the head; one byte too few, and there is none. No memory, no program.
-/
import Derived.Test.YtamgikcoknkghaaPure2
namespace Go.Proofs.Ytamgikcoknkghaa.Pure
open Go.Proofs.Ytamgikcoknkghaa.Mem
set_option linter.unusedVariables false

/-- A floor just as long as the head tells, with the head's bytes at its beginning. -/
def headFloor (n o l r : Int) : List Int := laidL (List.replicate n.toNat 0) 0 (headL n o l r)
theorem headFloor_length (n o l r : Int) : (headFloor n o l r).length = n.toNat := by
  unfold headFloor
  rw [laidL_length, List.length_replicate]
theorem headFloor_byt (n o l r : Int) : Byt (headFloor n o l r) := byt_laidL (byt_zeros _) (byt_headL _ _ _ _)
theorem headFloor_six {n o l r : Int} (h : headB n o l r = true) : (headFloor n o l r).take 6 = headW n o l r := by
  have h1 := headB_iff.1 h
  have e : headL n o l r = headW n o l r := by unfold headL; rw [if_pos h]
  have ht : there (List.replicate n.toNat 0) 0 ((headW n o l r).length : Int) = true := by
    rw [there_iff, List.length_replicate]
    have : (headW n o l r).length = 6 := rfl
    omega
  unfold headFloor laidL
  rw [e, if_pos ht]
  simp [splice, headW]
theorem headFloor_back {n o l r : Int} (h : headB n o l r = true) : headAtB (headFloor n o l r) 0 = true ∧ headAtH (headFloor n o l r) 0 = ⟨n, o, l, r⟩ := by
  have h1 := headB_iff.1 h
  have hl := headFloor_length n o l r
  have hp : piece (headFloor n o l r) 0 6 = headW n o l r := by
    unfold piece
    simp only [Int.toNat_zero, List.drop_zero]
    exact headFloor_six h
  have t6 : there (headFloor n o l r) 0 6 = true := by rw [there_iff]; omega
  have tn : there (headFloor n o l r) 0 n = true := by rw [there_iff]; omega
  have hB : headAtB (headFloor n o l r) 0 = true := by
    unfold headAtB
    rw [t6, hp, dec_headW]
    simp only
    rw [h, tn]
    simp [headW]
  refine ⟨hB, ?_⟩
  rw [headAtH, if_pos hB, hp, dec_headW]
theorem headFloor_short {n o l r : Int} (h : headB n o l r = true) : headAtB ((headFloor n o l r).take (n.toNat - 1)) 0 = false := by
  have h1 := headB_iff.1 h
  have hl : ((headFloor n o l r).take (n.toNat - 1)).length = n.toNat - 1 := by rw [List.length_take, headFloor_length]; omega
  unfold headAtB
  by_cases h6 : n.toNat - 1 < 6
  · have : there ((headFloor n o l r).take (n.toNat - 1)) 0 6 = false := by
      rw [Bool.eq_false_iff]
      intro hc
      have := there_iff.1 hc
      omega
    rw [this, Bool.false_and]
  · have hp : piece ((headFloor n o l r).take (n.toNat - 1)) 0 6 = headW n o l r := by
      unfold piece
      simp only [Int.toNat_zero, List.drop_zero]
      rw [List.take_take, show min (Int.toNat 6) (n.toNat - 1) = 6 by omega]
      exact headFloor_six h
    have : there ((headFloor n o l r).take (n.toNat - 1)) 0 n = false := by
      rw [Bool.eq_false_iff]
      intro hc
      have := there_iff.1 hc
      omega
    rw [hp, dec_headW]
    simp only
    rw [this]
    simp
end Go.Proofs.Ytamgikcoknkghaa.Pure

/-
  Chapter 1 on lists: which bytes are there, the piece, what is laid, wiped, pushed. No memory, no program.
-/
import Derived.Test.YtmipkngikimjgaaMem
namespace Go.Proofs.Ytmipkngikimjgaa.Pure
open Go.Proofs.Ytmipkngikimjgaa.Mem
set_option linter.unusedVariables false

def there (L : List Int) (a n : Int) : Bool := decide (L.length ≤ 1024 ∧ 0 ≤ a ∧ 0 ≤ n ∧ n ≤ L.length - a)
theorem there_iff {L : List Int} {a n : Int} : there L a n = true ↔ L.length ≤ 1024 ∧ 0 ≤ a ∧ 0 ≤ n ∧ n ≤ L.length - a := by simp [there]
def piece (L : List Int) (a n : Int) : List Int := (L.drop a.toNat).take n.toNat
def partL (L : List Int) (a n : Int) : List Int := if there L a n then piece L a n else []
def laidL (L : List Int) (a : Int) (M : List Int) : List Int := if there L a M.length then splice L a.toNat M else L
def wipe (L : List Int) (a n : Int) : List Int := splice L a.toNat (List.replicate n.toNat 0)
def wipedL (L : List Int) (a n : Int) : List Int := if there L a n then wipe L a n else L
def pushB (L : List Int) (f t n : Int) : Bool := there L f n && decide (0 ≤ t ∧ t ≤ f)
def push (L : List Int) (f t n : Int) : List Int := splice (wipe L f n) t.toNat (piece L f n)
def pushedL (L : List Int) (f t n : Int) : List Int := if pushB L f t n then push L f t n else L

theorem part_length {L : List Int} {a n : Int} (h : there L a n = true) : (piece L a n).length = n.toNat := by
  have := there_iff.1 h
  rw [piece, List.length_take, List.length_drop]
  omega
theorem splice_length {L M : List Int} {k : Nat} (h : k + M.length ≤ L.length) : (splice L k M).length = L.length := length_splice L k M h
theorem wipe_length {L : List Int} {a n : Int} (h : there L a n = true) : (wipe L a n).length = L.length := by
  have := there_iff.1 h
  exact splice_length (by rw [List.length_replicate]; omega)
theorem push_length {L : List Int} {f t n : Int} (h : pushB L f t n = true) : (push L f t n).length = L.length := by
  unfold pushB at h
  rw [Bool.and_eq_true, decide_eq_true_eq] at h
  have h1 := there_iff.1 h.1
  rw [push, splice_length, wipe_length h.1]
  rw [wipe_length h.1, part_length h.1]
  omega
theorem getElem?_splice {α : Type} (L : List α) (k : Nat) (M : List α) (h : k + M.length ≤ L.length) (i : Nat) :
    (splice L k M)[i]? = if i < k then L[i]? else if i < k + M.length then M[i - k]? else L[i]? := by
  unfold splice
  rw [List.getElem?_append, List.length_take, show min k L.length = k by omega, List.getElem?_take]
  by_cases h1 : i < k
  · simp [h1]
  · rw [if_neg h1, if_neg h1, List.getElem?_append]
    by_cases h2 : i < k + M.length
    · rw [if_pos (show i - k < M.length by omega), if_pos h2]
    · rw [if_neg (show ¬ i - k < M.length by omega), if_neg h2, List.getElem?_drop]
      congr 1
      omega
/-- The program pushes by a copy first and a wipe of what was left; the chapter's words wipe first: it is one. -/
theorem push_eq {L : List Int} {f t n : Int} (h : pushB L f t n = true) :
    splice (splice L t.toNat (piece L f n)) (max f (t + n)).toNat (List.replicate (f + n - max f (t + n)).toNat 0) = push L f t n := by
  unfold pushB at h
  rw [Bool.and_eq_true, decide_eq_true_eq] at h
  have h1 := there_iff.1 h.1
  have hp := part_length h.1
  have hw := wipe_length h.1
  obtain ⟨F, hF⟩ : ∃ F : Nat, f = F := ⟨f.toNat, by omega⟩
  obtain ⟨T, hT⟩ : ∃ T : Nat, t = T := ⟨t.toNat, by omega⟩
  obtain ⟨N, hN⟩ : ∃ N : Nat, n = N := ⟨n.toNat, by omega⟩
  subst hF hT hN
  have e1 : (max (F : Int) (T + N)).toNat = max F (T + N) := by omega
  have e2 : ((F : Int) + N - max (F : Int) (T + N)).toNat = F + N - max F (T + N) := by omega
  rw [e1, e2]
  simp only [Int.toNat_natCast] at hp ⊢
  apply List.ext_getElem?
  intro i
  have hs : (splice L T (piece L F N)).length = L.length := splice_length (by omega)
  rw [getElem?_splice _ _ _ (by rw [hs, List.length_replicate]; omega), getElem?_splice _ _ _ (by omega), push]
  simp only [Int.toNat_natCast]
  rw [getElem?_splice _ _ _ (by omega), wipe]
  simp only [Int.toNat_natCast]
  rw [getElem?_splice _ _ _ (by rw [List.length_replicate]; omega)]
  simp only [List.length_replicate, List.getElem?_replicate, hp]
  by_cases a1 : i < T
  · rw [if_pos (by omega), if_pos a1, if_pos a1, if_pos (by omega)]
  · rw [if_neg a1, if_neg a1]
    by_cases a2 : i < T + N
    · rw [if_pos a2, if_pos a2, if_pos (by omega)]
    · rw [if_neg a2, if_neg a2]
      by_cases a3 : i < F
      · rw [if_pos (by omega), if_pos a3]
      · rw [if_neg a3]
        by_cases a4 : i < F + N
        · rw [if_neg (by omega), if_pos (by omega), if_pos (by omega), if_pos a4, if_pos (by omega)]
        · rw [if_neg (by omega), if_neg (by omega), if_neg a4]

theorem byt_splice {L M : List Int} {k : Nat} (hL : Byt L) (hM : Byt M) : Byt (splice L k M) := by
  intro x hx
  unfold splice at hx
  rw [List.mem_append, List.mem_append] at hx
  rcases hx with hx | hx | hx
  · exact hL x (List.mem_of_mem_take hx)
  · exact hM x hx
  · exact hL x (List.mem_of_mem_drop hx)
theorem byt_part {L : List Int} {a n : Int} (hL : Byt L) : Byt (piece L a n) := fun x hx => hL x (List.mem_of_mem_drop (List.mem_of_mem_take hx))
theorem byt_nil : Byt [] := fun x hx => by cases hx
theorem byt_zeros (n : Nat) : Byt (List.replicate n 0) := fun x hx => by rw [List.eq_of_mem_replicate hx]; omega
theorem byt_partL {L : List Int} {a n : Int} (hL : Byt L) : Byt (partL L a n) := by unfold partL; split; exact byt_part hL; exact byt_nil
theorem byt_laidL {L M : List Int} {a : Int} (hL : Byt L) (hM : Byt M) : Byt (laidL L a M) := by unfold laidL; split; exact byt_splice hL hM; exact hL
theorem byt_wipedL {L : List Int} {a n : Int} (hL : Byt L) : Byt (wipedL L a n) := by unfold wipedL; split; exact byt_splice hL (byt_zeros _); exact hL
theorem byt_pushedL {L : List Int} {f t n : Int} (hL : Byt L) : Byt (pushedL L f t n) := by
  unfold pushedL; split; exact byt_splice (byt_splice hL (byt_zeros _)) (byt_part hL); exact hL

theorem partL_length (L : List Int) (a n : Int) : (partL L a n).length ≤ L.length := by
  unfold partL
  split
  · rw [piece, List.length_take, List.length_drop]; omega
  · simp
theorem laidL_length (L : List Int) (a : Int) (M : List Int) : (laidL L a M).length = L.length := by
  unfold laidL
  split
  · rename_i h
    have := there_iff.1 h
    exact splice_length (by omega)
  · rfl
theorem wipedL_length (L : List Int) (a n : Int) : (wipedL L a n).length = L.length := by
  unfold wipedL
  split
  · rename_i h; exact wipe_length h
  · rfl
theorem pushedL_length (L : List Int) (f t n : Int) : (pushedL L f t n).length = L.length := by
  unfold pushedL
  split
  · rename_i h; exact push_length h
  · rfl

/-- What is laid lies there. -/
theorem laid_back {L M : List Int} {a : Int} (h : there L a M.length = true) : there (laidL L a M) a M.length = true ∧ partL (laidL L a M) a M.length = M := by
  have h1 := there_iff.1 h
  have h2 : there (laidL L a M) a M.length = true := by
    rw [there_iff, laidL_length]
    exact h1
  refine ⟨h2, ?_⟩
  rw [partL, if_pos h2, laidL, if_pos h, piece]
  apply List.ext_getElem?
  intro i
  rw [List.getElem?_take, List.getElem?_drop, getElem?_splice _ _ _ (by omega)]
  simp only [Int.toNat_natCast]
  by_cases hi : i < M.length
  · rw [if_pos hi, if_neg (by omega), if_pos (by omega), show a.toNat + i - a.toNat = i by omega]
  · rw [if_neg hi, List.getElem?_eq_none (by omega)]
/-- What is pushed comes as it was. -/
theorem push_back {L : List Int} {f t n : Int} (h : pushB L f t n = true) : there (pushedL L f t n) t n = true ∧ partL (pushedL L f t n) t n = partL L f n := by
  have h0 := h
  unfold pushB at h
  rw [Bool.and_eq_true, decide_eq_true_eq] at h
  have h1 := there_iff.1 h.1
  have h2 : there (pushedL L f t n) t n = true := by
    rw [there_iff, pushedL_length]
    omega
  refine ⟨h2, ?_⟩
  have hp := part_length h.1
  have hw := wipe_length h.1
  rw [partL, if_pos h2, partL, if_pos h.1, pushedL, if_pos h0, push]
  apply List.ext_getElem?
  intro i
  rw [piece, List.getElem?_take, List.getElem?_drop, getElem?_splice _ _ _ (by omega)]
  by_cases hi : i < n.toNat
  · rw [if_pos hi, if_neg (by omega), if_pos (by omega), show t.toNat + i - t.toNat = i by omega]
  · rw [if_neg hi, List.getElem?_eq_none (by omega)]
end Go.Proofs.Ytmipkngikimjgaa.Pure

/-
  Chapter 2 on lists: which heads are right, their bytes, the head that is read at a place. No memory, no program.
-/
import Derived.Test.YtmipkngikimjgaaPure
namespace Go.Proofs.Ytmipkngikimjgaa.Pure
open Go.Proofs.Ytmipkngikimjgaa.Mem
set_option linter.unusedVariables false

structure Hd where
  s : Int
  o : Int
  l : Int
  r : Int

def Hd.zero : Hd := ⟨0, 0, 0, 0⟩
def bigB (s r : Int) : Bool := decide (0 ≤ r ∧ r ≤ 6 ∧ 6 + r ≤ s ∧ s ≤ 1000)
def headB (s o l r : Int) : Bool := bigB s r && decide (-1 ≤ o ∧ o ≤ 3 ∧ 0 ≤ l ∧ l ≤ 15)
theorem bigB_iff {s r : Int} : bigB s r = true ↔ 0 ≤ r ∧ r ≤ 6 ∧ 6 + r ≤ s ∧ s ≤ 1000 := by simp [bigB]
theorem headB_iff {s o l r : Int} : headB s o l r = true ↔ (0 ≤ r ∧ r ≤ 6 ∧ 6 + r ≤ s ∧ s ≤ 1000) ∧ -1 ≤ o ∧ o ≤ 3 ∧ 0 ≤ l ∧ l ≤ 15 := by
  unfold headB
  rw [Bool.and_eq_true, bigB_iff, decide_eq_true_eq]
def headW (s o l r : Int) : List Int := [s % 256, s / 256, o + 1, l, r, 0]
def headL (s o l r : Int) : List Int := if headB s o l r then headW s o l r else []
def dec (p : List Int) : Hd := ⟨p.getD 0 0 + 256 * p.getD 1 0, p.getD 2 0 - 1, p.getD 3 0, p.getD 4 0⟩
def headAtB (L : List Int) (a : Int) : Bool :=
  there L a 6 && (decide ((piece L a 6).getD 5 0 = 0) && (headB (dec (piece L a 6)).s (dec (piece L a 6)).o (dec (piece L a 6)).l (dec (piece L a 6)).r && there L a (dec (piece L a 6)).s))
def headAtH (L : List Int) (a : Int) : Hd := if headAtB L a then dec (piece L a 6) else Hd.zero

theorem headL_length (s o l r : Int) : (headL s o l r).length ≤ 6 := by
  unfold headL headW
  split <;> simp
theorem byt_headL (s o l r : Int) : Byt (headL s o l r) := by
  unfold headL
  split
  · rename_i h
    have h1 := headB_iff.1 h
    intro x hx
    simp [headW] at hx
    rcases hx with rfl | rfl | rfl | rfl | rfl | rfl <;> omega
  · exact byt_nil

theorem six {p : List Int} (h : p.length = 6) : p = [p.getD 0 0, p.getD 1 0, p.getD 2 0, p.getD 3 0, p.getD 4 0, p.getD 5 0] := by
  match p, h with
  | [a, b, c, d, e, f], _ => rfl
/-- The bytes of what six bytes tell are these six bytes, just where the last is 0 and what they tell is right. -/
theorem written_iff {p : List Int} (h : p.length = 6) (hb : Byt p) :
    decide (p = headL (dec p).s (dec p).o (dec p).l (dec p).r) = (decide (p.getD 5 0 = 0) && headB (dec p).s (dec p).o (dec p).l (dec p).r) := by
  match p, h with
  | [a, b, c, d, e, f], _ =>
    have ha := hb a (by simp)
    have hc := hb b (by simp)
    unfold headL
    by_cases hh : headB (dec [a, b, c, d, e, f]).s (dec [a, b, c, d, e, f]).o (dec [a, b, c, d, e, f]).l (dec [a, b, c, d, e, f]).r = true
    · rw [if_pos hh, hh, Bool.and_true]
      simp only [dec, headW, List.getD_cons_zero, List.getD_cons_succ]
      by_cases hf : f = 0
      · subst hf
        rw [decide_eq_true (rfl : (0 : Int) = 0), decide_eq_true]
        rw [show (a + 256 * b) % 256 = a by omega, show (a + 256 * b) / 256 = b by omega, show c - 1 + 1 = c by omega]
      · rw [decide_eq_false hf, decide_eq_false]
        intro e
        simp at e
        exact hf e.2.2
    · have hh' : headB (dec [a, b, c, d, e, f]).s (dec [a, b, c, d, e, f]).o (dec [a, b, c, d, e, f]).l (dec [a, b, c, d, e, f]).r = false := by simpa using hh
      rw [hh', Bool.and_false]
      simp
theorem dec_headW (s o l r : Int) : dec (headW s o l r) = ⟨s, o, l, r⟩ := by
  simp only [dec, headW, List.getD_cons_zero, List.getD_cons_succ]
  rw [show s % 256 + 256 * (s / 256) = s by omega, show o + 1 - 1 = o by omega]
theorem headAt_sound {L : List Int} {a : Int} (h : headAtB L a = true) : headB (headAtH L a).s (headAtH L a).o (headAtH L a).l (headAtH L a).r = true ∧ there L a (headAtH L a).s = true := by
  have h0 := h
  unfold headAtB at h
  rw [Bool.and_eq_true, Bool.and_eq_true, Bool.and_eq_true] at h
  rw [headAtH, if_pos h0]
  exact ⟨h.2.2.1, h.2.2.2⟩
end Go.Proofs.Ytmipkngikimjgaa.Pure

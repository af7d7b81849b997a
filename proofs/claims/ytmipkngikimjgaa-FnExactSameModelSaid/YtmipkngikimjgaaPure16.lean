/-
  Chapter 16 on lists: things, rooms, models. No condition.
-/
import Derived.Test.YtmipkngikimjgaaNest
namespace Go.Proofs.Ytmipkngikimjgaa.Pure
open Go.Proofs.Ytmipkngikimjgaa.Mem Go.Proofs.Ytmipkngikimjgaa.Nest
set_option linter.unusedVariables false

/-- A thing, a room, a model. -/
structure Th where
  u : Bool
  r : Bool
  g : Int
  f : List Int
  d : List Int
structure Rm where
  l : Bool
  t : Int
  b : Int
  T : List Th
structure Md where
  s : Int
  R : List Rm
  n : Int

/-- How many words they take. -/
def thC (k : Th) : Nat := k.f.length + k.d.length
def rmC (k : Rm) : Nat := k.T.length + tot thC k.T
def mdC (M : Md) : Nat := M.R.length + tot rmC M.R
/-- All data are bytes. -/
def ThOk (k : Th) : Prop := Byt k.d
def RmOk (k : Rm) : Prop := ∀ x ∈ k.T, ThOk x
def MdOk (M : Md) : Prop := ∀ x ∈ M.R, RmOk x

/-- Two lists are alike, element by element. -/
def allB {α : Type} (q : α → α → Bool) : List α → List α → Bool
  | [], [] => true
  | a :: A, b :: B => q a b && allB q A B
  | _, _ => false
def sameTh (a b : Th) : Bool := a.u == b.u && (a.r == b.r && (a.g == b.g && (decide (a.f = b.f) && decide (a.d = b.d))))
def sameRm (a b : Rm) : Bool := a.l == b.l && (a.t == b.t && (a.b == b.b && allB sameTh a.T b.T))
def sameMd (a b : Md) : Bool := a.s == b.s && (a.n == b.n && allB sameRm a.R b.R)

section
variable {α : Type} {q : α → α → Bool} {A B : List α}
theorem allB_len (h : A.length ≠ B.length) : allB q A B = false := by
  induction A generalizing B with
  | nil => cases B with
    | nil => simp at h
    | cons b B => rfl
  | cons a A ih => cases B with
    | nil => rfl
    | cons b B =>
      unfold allB
      rw [ih (by simpa using h), Bool.and_false]
theorem allB_drop {i : Nat} {a b : α} (ha : A[i]? = some a) (hb : B[i]? = some b) : allB q (A.drop i) (B.drop i) = (q a b && allB q (A.drop (i + 1)) (B.drop (i + 1))) := by
  obtain ⟨h1, rfl⟩ := List.getElem?_eq_some_iff.1 ha
  obtain ⟨h2, rfl⟩ := List.getElem?_eq_some_iff.1 hb
  rw [List.drop_eq_getElem_cons h1, List.drop_eq_getElem_cons h2]
  rfl
theorem allB_end {i : Nat} (ha : A.length ≤ i) (hb : B.length ≤ i) : allB q (A.drop i) (B.drop i) = true := by
  rw [List.drop_eq_nil_of_le ha, List.drop_eq_nil_of_le hb]
  rfl
end
end Go.Proofs.Ytmipkngikimjgaa.Pure

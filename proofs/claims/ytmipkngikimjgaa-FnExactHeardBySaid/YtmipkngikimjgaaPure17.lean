/-
  Chapter 17's HeardBy on lists: orders, answers. No condition.
-/
import Derived.Test.YtmipkngikimjgaaNest
namespace Go.Proofs.Ytmipkngikimjgaa.Pure
open Go.Proofs.Ytmipkngikimjgaa.Mem Go.Proofs.Ytmipkngikimjgaa.Nest
set_option linter.unusedVariables false

/-- An order, an answer. -/
structure Od where
  k : Int
  w : Int
  a : Int
  b : Int
  c : Int
  x : ByteArray
structure An where
  c : Int
  n : Int
  d : List Int

def odC (o : Od) : Nat := o.x.size
def anC (a : An) : Nat := a.d.length

/-- Is it heard by t? -/
def hearB (t : Int) (o : Od) : Bool := o.w == t && !decide (11 ≤ o.k ∧ o.k ≤ 13)
def heard (t : Int) (Z : List (Od × An)) : List An := (Z.filter fun p => hearB t p.1).map fun p => p.2

section
variable {t : Int} {Z : List (Od × An)}
theorem heard_step {i : Nat} {o : Od} {a : An} (h : Z[i]? = some (o, a)) : heard t (Z.take (i + 1)) = heard t (Z.take i) ++ (if hearB t o then [a] else []) := by
  obtain ⟨h1, e⟩ := List.getElem?_eq_some_iff.1 h
  unfold heard
  rw [List.take_succ_eq_append_getElem h1, List.filter_append, List.map_append, e]
  congr 1
  by_cases hq : hearB t o <;> simp [hq]
theorem zip_get {A : List Od} {B : List An} {i : Nat} {o : Od} {a : An} (h1 : A[i]? = some o) (h2 : B[i]? = some a) : (A.zip B)[i]? = some (o, a) := by
  rw [List.getElem?_zip_eq_some]
  exact ⟨h1, h2⟩
/-- What is heard is no more than what was answered. -/
theorem heard_le (t : Int) (A : List Od) (B : List An) : (heard t (A.zip B)).length + tot anC (heard t (A.zip B)) ≤ B.length + tot anC B := by
  induction B generalizing A with
  | nil => cases A <;> simp [heard, tot, pre]
  | cons b B ih =>
    cases A with
    | nil => simp [heard, tot, pre]
    | cons a A =>
      have h := ih A
      have e1 : tot anC (b :: B) = anC b + tot anC B := by simp [tot, pre]
      have e2 : heard t ((a :: A).zip (b :: B)) = (if hearB t a then [b] else []) ++ heard t (A.zip B) := by
        unfold heard
        rw [List.zip_cons_cons, List.filter_cons]
        by_cases hq : hearB t a <;> simp [hq]
      rw [e2, e1, List.length_cons]
      by_cases hq : hearB t a
      · have e3 : tot anC (b :: heard t (A.zip B)) = anC b + tot anC (heard t (A.zip B)) := by simp [tot, pre]
        simp only [hq, if_true, List.singleton_append, List.length_cons]
        omega
      · simp only [hq, if_false, List.nil_append, Bool.false_eq_true]
        omega
theorem heard_mem {A : List Od} {B : List An} {x : An} (h : x ∈ heard t (A.zip B)) : x ∈ B := by
  unfold heard at h
  obtain ⟨p, hp, rfl⟩ := List.mem_map.1 h
  exact (List.of_mem_zip (List.mem_filter.1 hp).1).2

/-- The marks of a row of answers, from s on; how many they are. -/
def anMarks : Nat → List An → List An
  | _, [] => []
  | s, a :: A => ⟨(s : Int), ((s + 1 : Nat) : Int), marks (s + 2) a.d.length⟩ :: anMarks (s + 2 + a.d.length) A
def anN (A : List An) : Nat := 2 * A.length + tot anC A
end
end Go.Proofs.Ytmipkngikimjgaa.Pure

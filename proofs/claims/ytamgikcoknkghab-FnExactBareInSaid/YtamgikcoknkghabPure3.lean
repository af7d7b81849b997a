/-
  Chapter 3 on lists: the places of a walk, where it ends, what is bare. No memory, no program.
-/
import Derived.Test.YtamgikcoknkghabPure2
namespace Go.Proofs.Ytamgikcoknkghab.Pure
open Go.Proofs.Ytamgikcoknkghab.Mem
set_option linter.unusedVariables false

/-- A place: where, and the head there. -/
structure Pl where
  a : Int
  h : Hd

def Pl.z (p : Pl) : Int := p.a + p.h.s
def endOf (a : Int) (P : List Pl) : Int := P.foldl (fun _ p => p.z) a
theorem endOf_snoc (a : Int) (P : List Pl) (p : Pl) : endOf a (P ++ [p]) = p.z := by simp [endOf]
theorem endOf_cons (a : Int) (p : Pl) (P : List Pl) : endOf a (p :: P) = endOf p.z P := rfl

theorem headAt_bounds {L : List Int} {a : Int} (h : headAtB L a = true) : 0 ≤ a ∧ 6 ≤ (headAtH L a).s ∧ (headAtH L a).s ≤ 1000 ∧ a + (headAtH L a).s ≤ L.length ∧ L.length ≤ 1024 := by
  have h1 := headAt_sound h
  have h2 := headB_iff.1 h1.1
  have h3 := there_iff.1 h1.2
  omega

/-- From a on, head after head, as long as there is one. -/
def walkL (L : List Int) (a : Int) : List Pl :=
  if h : headAtB L a = true then ⟨a, headAtH L a⟩ :: walkL L (a + (headAtH L a).s) else []
termination_by ((L.length : Int) - a).toNat
decreasing_by
  have := headAt_bounds h
  omega
theorem walkL_yes {L : List Int} {a : Int} (h : headAtB L a = true) : walkL L a = ⟨a, headAtH L a⟩ :: walkL L (a + (headAtH L a).s) := by
  rw [walkL, dif_pos h]
theorem walkL_no {L : List Int} {a : Int} (h : headAtB L a = false) : walkL L a = [] := by
  rw [walkL, dif_neg (by simp [h])]

/-- Each place is in its bounds, and they are few. -/
theorem walkL_bounds {L : List Int} (k : Nat) : ∀ a : Int, ((L.length : Int) - a).toNat ≤ k → ∀ p ∈ walkL L a, 0 ≤ p.a ∧ p.a ≤ 1024 ∧ 6 ≤ p.h.s ∧ p.h.s ≤ 1000 ∧ p.a + p.h.s ≤ L.length ∧ headB p.h.s p.h.o p.h.l p.h.r = true := by
  induction k with
  | zero =>
    intro a ha p hp
    by_cases h : headAtB L a = true
    · have := headAt_bounds h
      omega
    · rw [walkL_no (by simpa using h)] at hp
      simp at hp
  | succ k ih =>
    intro a ha p hp
    by_cases h : headAtB L a = true
    · have hb := headAt_bounds h
      rw [walkL_yes h, List.mem_cons] at hp
      rcases hp with rfl | hp
      · exact ⟨by show 0 ≤ a; omega, by show a ≤ 1024; omega, by show 6 ≤ (headAtH L a).s; omega, by show (headAtH L a).s ≤ 1000; omega, by show a + (headAtH L a).s ≤ L.length; omega, (headAt_sound h).1⟩
      · exact ih _ (by omega) p hp
    · rw [walkL_no (by simpa using h)] at hp
      simp at hp
theorem walkL_mem {L : List Int} {a : Int} {p : Pl} (hp : p ∈ walkL L a) : 0 ≤ p.a ∧ p.a ≤ 1024 ∧ 6 ≤ p.h.s ∧ p.h.s ≤ 1000 ∧ p.a + p.h.s ≤ L.length ∧ headB p.h.s p.h.o p.h.l p.h.r = true := walkL_bounds _ a (Nat.le_refl _) p hp
theorem walkL_few {L : List Int} (k : Nat) : ∀ a : Int, ((L.length : Int) - a).toNat ≤ k → 6 * (walkL L a).length ≤ ((L.length : Int) - a).toNat := by
  induction k with
  | zero =>
    intro a ha
    by_cases h : headAtB L a = true
    · have := headAt_bounds h
      omega
    · rw [walkL_no (by simpa using h)]
      simp
  | succ k ih =>
    intro a ha
    by_cases h : headAtB L a = true
    · have hb := headAt_bounds h
      have := ih (a + (headAtH L a).s) (by omega)
      rw [walkL_yes h, List.length_cons]
      omega
    · rw [walkL_no (by simpa using h)]
      simp
theorem walkL_length {L : List Int} {a : Int} (h0 : 0 ≤ a) (hL : L.length ≤ 1024) : (walkL L a).length ≤ 170 := by
  have := walkL_few (L := L) _ a (Nat.le_refl _)
  omega

/-- The chapter's walk: till it is at t; none where there is no head, or it goes beyond. -/
def walkS (L : List Int) (t a : Int) : Option (List Pl) :=
  if a < t then
    if h : headAtB L a = true then
      if a + (headAtH L a).s ≤ t then (walkS L t (a + (headAtH L a).s)).map (⟨a, headAtH L a⟩ :: ·) else none
    else none
  else some []
termination_by ((L.length : Int) - a).toNat
decreasing_by
  have := headAt_bounds h
  omega
theorem walkS_end {L : List Int} {t a : Int} (h : ¬ a < t) : walkS L t a = some [] := by rw [walkS, if_neg h]
theorem walkS_no {L : List Int} {t a : Int} (h : a < t) (hb : headAtB L a = false) : walkS L t a = none := by rw [walkS, if_pos h, dif_neg (by simp [hb])]
theorem walkS_over {L : List Int} {t a : Int} (h : a < t) (hb : headAtB L a = true) (ho : ¬ a + (headAtH L a).s ≤ t) : walkS L t a = none := by rw [walkS, if_pos h, dif_pos hb, if_neg ho]
theorem walkS_step {L : List Int} {t a : Int} (h : a < t) (hb : headAtB L a = true) (ho : a + (headAtH L a).s ≤ t) : walkS L t a = (walkS L t (a + (headAtH L a).s)).map (⟨a, headAtH L a⟩ :: ·) := by
  rw [walkS, if_pos h, dif_pos hb, if_pos ho]

theorem piece_take {L : List Int} {t : Nat} {a n : Int} (h0 : 0 ≤ a) (hn : 0 ≤ n) (h : a + n ≤ t) : piece (L.take t) a n = piece L a n := by
  unfold piece
  rw [List.drop_take, List.take_take]
  congr 1
  omega
theorem headAt_take {L : List Int} {t : Nat} {a : Int} (ht : t ≤ L.length) (hL : L.length ≤ 1024) :
    headAtB (L.take t) a = (headAtB L a && decide (a + (headAtH L a).s ≤ t)) ∧ (headAtB (L.take t) a = true → headAtH (L.take t) a = headAtH L a) := by
  have hlen : (L.take t).length = t := by rw [List.length_take]; omega
  have key : headAtB (L.take t) a = true → headAtB L a = true ∧ a + (headAtH L a).s ≤ t ∧ headAtH (L.take t) a = headAtH L a := by
    intro h
    have hb := headAt_bounds h
    have hh := h
    have e : headAtH (L.take t) a = dec (piece (L.take t) a 6) := by rw [headAtH, if_pos h]
    rw [hlen] at hb
    have hp : piece (L.take t) a 6 = piece L a 6 := piece_take (by omega) (by omega) (by omega)
    rw [hp] at e
    unfold headAtB at h
    rw [hp, Bool.and_eq_true, Bool.and_eq_true, Bool.and_eq_true] at h
    rw [e] at hb
    have h2 : headAtB L a = true := by
      unfold headAtB
      rw [Bool.and_eq_true, Bool.and_eq_true, Bool.and_eq_true, there_iff, there_iff]
      exact ⟨by omega, h.2.1, h.2.2.1, by omega⟩
    have e2 : headAtH L a = dec (piece L a 6) := by rw [headAtH, if_pos h2]
    exact ⟨h2, by rw [e2]; omega, e.trans e2.symm⟩
  refine ⟨?_, fun h => (key h).2.2⟩
  rw [Bool.eq_iff_iff, Bool.and_eq_true, decide_eq_true_eq]
  refine ⟨fun h => ⟨(key h).1, (key h).2.1⟩, fun ⟨h, h1⟩ => ?_⟩
  have hb := headAt_bounds h
  have e : headAtH L a = dec (piece L a 6) := by rw [headAtH, if_pos h]
  have hp : piece (L.take t) a 6 = piece L a 6 := piece_take (by omega) (by omega) (by omega)
  rw [e] at h1 hb
  unfold headAtB at h ⊢
  rw [Bool.and_eq_true, Bool.and_eq_true, Bool.and_eq_true] at h
  rw [hp, Bool.and_eq_true, Bool.and_eq_true, Bool.and_eq_true, there_iff, there_iff, hlen]
  exact ⟨by omega, h.2.1, h.2.2.1, by omega⟩

/-- The chapter's walk is the program's: from head to head in what lies ahead of t, and it must end there. -/
theorem walkS_eq {L : List Int} {t : Nat} (ht : t ≤ L.length) (hL : L.length ≤ 1024) (k : Nat) : ∀ a : Int, 0 ≤ a → a ≤ t → ((t : Int) - a).toNat ≤ k →
    walkS L t a = if endOf a (walkL (L.take t) a) = t then some (walkL (L.take t) a) else none := by
  have hlen : (L.take t).length = t := by rw [List.length_take]; omega
  induction k with
  | zero =>
    intro a h0 h1 h2
    have ea : a = (t : Int) := by omega
    subst ea
    have hb : headAtB (L.take t) t = false := by
      rw [Bool.eq_false_iff]
      intro h
      have := headAt_bounds h
      omega
    rw [walkS_end (by omega), walkL_no hb]
    simp [endOf]
  | succ k ih =>
    intro a h0 h1 h2
    obtain ⟨hk1, hk2⟩ := headAt_take (a := a) ht hL
    by_cases hlt : a < t
    · by_cases hb : headAtB (L.take t) a = true
      · have hb0 := hb
        have hbd := headAt_bounds hb
        rw [hk1, Bool.and_eq_true, decide_eq_true_eq] at hb
        have e := hk2 hb0
        rw [walkS_step hlt hb.1 hb.2, walkL_yes hb0, e, ih _ (by rw [e] at hbd; omega) hb.2 (by rw [e] at hbd; omega), endOf_cons]
        show _ = if endOf (a + (headAtH L a).s) _ = _ then _ else _
        by_cases hx : endOf (a + (headAtH L a).s) (walkL (L.take t) (a + (headAtH L a).s)) = t
        · rw [if_pos hx, if_pos hx]
          rfl
        · rw [if_neg hx, if_neg hx]
          rfl
      · have hb' : headAtB (L.take t) a = false := by simpa using hb
        rw [walkL_no hb', if_neg (by simp [endOf]; omega)]
        by_cases hc : headAtB L a = true
        · rw [hk1, hc, Bool.true_and, decide_eq_false_iff_not] at hb'
          exact walkS_over hlt hc hb'
        · exact walkS_no hlt (by simpa using hc)
    · have ea : a = (t : Int) := by omega
      subst ea
      have hb : headAtB (L.take t) t = false := by
        rw [Bool.eq_false_iff]
        intro h
        have := headAt_bounds h
        omega
      rw [walkS_end (by omega), walkL_no hb]
      simp [endOf]
theorem walkS_past {L : List Int} {t : Int} (ht : (L.length : Int) < t) (k : Nat) : ∀ a : Int, a ≤ L.length → ((L.length : Int) - a).toNat ≤ k → walkS L t a = none := by
  induction k with
  | zero =>
    intro a h1 h2
    by_cases hb : headAtB L a = true
    · have := headAt_bounds hb
      omega
    · exact walkS_no (by omega) (by simpa using hb)
  | succ k ih =>
    intro a h1 h2
    by_cases hb : headAtB L a = true
    · have hbd := headAt_bounds hb
      rw [walkS_step (by omega) hb (by omega), ih _ (by omega) (by omega)]
      rfl
    · exact walkS_no (by omega) (by simpa using hb)

def spanB (L : List Int) (f t : Int) : Bool := decide (0 ≤ f ∧ f ≤ t) && there L f (t - f)
theorem spanB_iff {L : List Int} {f t : Int} : spanB L f t = true ↔ 0 ≤ f ∧ f ≤ t ∧ t ≤ L.length ∧ L.length ≤ 1024 := by
  unfold spanB
  rw [Bool.and_eq_true, decide_eq_true_eq, there_iff]
  omega
/-- Is there a walk from f to t? -/
def walkB (L : List Int) (f t : Int) : Bool := spanB L f t && decide (endOf f (walkL (L.take t.toNat) f) = t)
/-- .. its places; none where there is no walk. -/
def walkP (L : List Int) (f t : Int) : List Pl := if walkB L f t then walkL (L.take t.toNat) f else []
theorem walkP_no {L : List Int} {f t : Int} (h : walkB L f t = false) : walkP L f t = [] := by unfold walkP; rw [h]; rfl
/-- The chapter's way to say it. -/
theorem walk_spec {L : List Int} {f t : Int} (h : there L f 0 = true) (hft : f ≤ t) :
    walkS L t f = if walkB L f t then some (walkP L f t) else none := by
  have h1 := there_iff.1 h
  by_cases ht : t ≤ L.length
  · obtain ⟨T, rfl⟩ : ∃ T : Nat, t = T := ⟨t.toNat, by omega⟩
    have hs : spanB L f T = true := by rw [spanB_iff]; omega
    rw [walkS_eq (by omega) (by omega) _ f (by omega) hft (Nat.le_refl _)]
    unfold walkP walkB
    rw [hs, Bool.true_and, Int.toNat_natCast]
    by_cases hx : endOf f (walkL (L.take T) f) = T
    · rw [if_pos hx]
      simp [hx]
    · rw [if_neg hx]
      simp [hx]
  · have hs : spanB L f t = false := by
      rw [Bool.eq_false_iff]
      intro hc
      have := spanB_iff.1 hc
      omega
    rw [walkS_past (by omega) _ f (by omega) (Nat.le_refl _)]
    unfold walkB
    rw [hs]
    rfl
theorem walkB_none {L : List Int} {f t : Int} (h : there L f 0 = false ∨ t < f) : walkB L f t = false := by
  unfold walkB
  rw [Bool.and_eq_false_iff]
  left
  rw [Bool.eq_false_iff]
  intro hc
  have h1 := spanB_iff.1 hc
  rcases h with h | h
  · have : there L f 0 = true := by rw [there_iff]; omega
    rw [this] at h
    cases h
  · omega

/-- Are all bytes from f to below t 0, and there? -/
def bareB (L : List Int) (f t : Int) : Bool := spanB L f t && (piece L f (t - f)).all (· == 0)

/-- From place to place: each lies where the one ahead of it ends. -/
theorem walkL_chain {L : List Int} (k : Nat) : ∀ a : Int, ((L.length : Int) - a).toNat ≤ k → ∀ i p, (walkL L a)[i]? = some p → p.a = endOf a ((walkL L a).take i) := by
  induction k with
  | zero =>
    intro a ha i p hp
    by_cases h : headAtB L a = true
    · have := headAt_bounds h
      omega
    · rw [walkL_no (by simpa using h)] at hp
      simp at hp
  | succ k ih =>
    intro a ha i p hp
    by_cases h : headAtB L a = true
    · have hb := headAt_bounds h
      rw [walkL_yes h] at hp ⊢
      cases i with
      | zero =>
        simp at hp
        subst hp
        simp [endOf]
      | succ i =>
        rw [List.getElem?_cons_succ] at hp
        have := ih _ (by omega) i p hp
        rw [List.take_succ_cons, endOf_cons]
        exact this
    · rw [walkL_no (by simpa using h)] at hp
      simp at hp
theorem walkP_length (L : List Int) (f t : Int) : (walkP L f t).length ≤ 170 := by
  unfold walkP
  cases hb : walkB L f t with
  | false => simp
  | true =>
    unfold walkB at hb
    rw [Bool.and_eq_true] at hb
    have h1 := spanB_iff.1 hb.1
    exact walkL_length h1.1 (by rw [List.length_take]; omega)
end Go.Proofs.Ytamgikcoknkghab.Pure

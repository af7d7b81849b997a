/-
  Chapter 6 on lists: webs, what is reached, what is lost. No memory, no program.
-/
import Derived.Test.YtmipkngikimjgabPure
namespace Go.Proofs.Ytmipkngikimjgab.Pure
set_option linter.unusedVariables false

/-- A knot of a web. -/
structure Kn where
  t : Bool
  r : Bool
  f : List Int

def thereK (K : List Kn) (x : Int) : Bool := match K[x.toNat]? with | some k => k.t | none => false
/-- Is a reference wrong? -/
def refBad (K : List Kn) (x : Int) : Bool := !decide (-1 ≤ x ∧ x ≤ (K.length : Int) - 1) || (decide (0 ≤ x) && !thereK K x)
def knBad (K : List Kn) (k : Kn) : Bool := (decide (6 < k.f.length) || (!k.t && (k.r || decide (0 < k.f.length)))) || k.f.any (refBad K)
def webB (K : List Kn) : Bool := !K.any (knBad K) && decide (K.length ≤ 16)

theorem web_parts {K : List Kn} (h : webB K = true) : K.length ≤ 16 ∧ ∀ (i : Nat) (k : Kn), K[i]? = some k → k.f.length ≤ 6 ∧ (k.t = false → k.r = false ∧ k.f = []) ∧ ∀ x ∈ k.f, -1 ≤ x ∧ x ≤ (K.length : Int) - 1 ∧ (0 ≤ x → ∃ k2, K[x.toNat]? = some k2 ∧ k2.t = true) := by
  unfold webB at h
  rw [Bool.and_eq_true, decide_eq_true_eq, Bool.not_eq_true', List.any_eq_false] at h
  refine ⟨h.2, fun i k hk => ?_⟩
  have h1 := h.1 k (List.mem_of_getElem? hk)
  unfold knBad at h1
  rw [Bool.not_eq_true, Bool.or_eq_false_iff, Bool.or_eq_false_iff, decide_eq_false_iff_not, List.any_eq_false] at h1
  obtain ⟨⟨h2, h3⟩, h4⟩ := h1
  refine ⟨by omega, fun ht => ?_, fun x hx => ?_⟩
  · rw [ht] at h3
    simp at h3
    exact ⟨h3.1, List.length_eq_zero_iff.1 (by simpa using h3.2)⟩
  · have h5 := h4 x hx
    unfold refBad at h5
    rw [Bool.not_eq_true, Bool.or_eq_false_iff] at h5
    have h6 : -1 ≤ x ∧ x ≤ (K.length : Int) - 1 := by simpa using h5.1
    refine ⟨h6.1, h6.2, fun h0 => ?_⟩
    have h7 := h5.2
    rw [decide_eq_true h0] at h7
    unfold thereK at h7
    cases hq : K[x.toNat]? with
    | none => rw [hq] at h7; simp at h7
    | some k2 => rw [hq] at h7; exact ⟨k2, rfl, by simpa using h7⟩

/-! ### the model's way -/
def markTo (o : List Bool) (f : List Int) : Nat → List Bool
  | 0 => o
  | j + 1 => match f[j]? with
    | some x => if 0 ≤ x then (markTo o f j).set x.toNat true else markTo o f j
    | none => markTo o f j
def passTo (K : List Kn) (o : List Bool) : Nat → List Bool
  | 0 => o
  | i + 1 => match K[i]? with
    | some k => if (passTo K o i)[i]? = some true then markTo (passTo K o i) k.f k.f.length else passTo K o i
    | none => passTo K o i
def roundsTo (K : List Kn) : Nat → List Bool
  | 0 => K.map (·.r)
  | n + 1 => passTo K (roundsTo K n) K.length
def reachL (K : List Kn) : List Bool := roundsTo K K.length
def reachP (K : List Kn) : List Bool := if webB K = true then reachL K else []
/-- Those that are there and not reached, from i on. -/
def lostTo (K : List Kn) (o : List Bool) : Nat → List Int
  | 0 => []
  | i + 1 => match K[i]? with
    | some k => if k.t = true ∧ o[i]? = some false then lostTo K o i ++ [(i : Int)] else lostTo K o i
    | none => lostTo K o i
def lostL (K : List Kn) : List Int := lostTo K (reachL K) K.length
def lostP (K : List Kn) : List Int := if webB K = true then lostL K else []
def costI (n r : Int) : Int := if (0 ≤ n ∧ n ≤ 200) ∧ 0 ≤ r ∧ r ≤ 6 then 6 + r + n else -1

theorem markTo_length (o : List Bool) (f : List Int) (j : Nat) : (markTo o f j).length = o.length := by
  induction j with
  | zero => rfl
  | succ j ih =>
    unfold markTo
    split
    · split
      · rw [List.length_set, ih]
      · exact ih
    · exact ih
theorem passTo_length (K : List Kn) (o : List Bool) (i : Nat) : (passTo K o i).length = o.length := by
  induction i with
  | zero => rfl
  | succ i ih =>
    unfold passTo
    split
    · split
      · rw [markTo_length, ih]
      · exact ih
    · exact ih
theorem roundsTo_length (K : List Kn) (n : Nat) : (roundsTo K n).length = K.length := by
  induction n with
  | zero => simp [roundsTo]
  | succ n ih => unfold roundsTo; rw [passTo_length, ih]
theorem reachL_length (K : List Kn) : (reachL K).length = K.length := roundsTo_length K _
theorem reachP_length (K : List Kn) : (reachP K).length ≤ K.length := by
  unfold reachP
  split
  · rw [reachL_length]; exact Nat.le_refl _
  · simp
theorem lostTo_length (K : List Kn) (o : List Bool) (i : Nat) : (lostTo K o i).length ≤ i := by
  induction i with
  | zero => simp [lostTo]
  | succ i ih =>
    unfold lostTo
    split
    · split
      · rw [List.length_append, List.length_singleton]; omega
      · omega
    · omega
theorem lostP_length (K : List Kn) : (lostP K).length ≤ K.length := by
  unfold lostP
  split
  · exact lostTo_length _ _ _
  · simp

/-! ### what is reached -/
inductive Reach (K : List Kn) : Nat → Prop
  | root {i : Nat} {k : Kn} (h : K[i]? = some k) (hr : k.r = true) : Reach K i
  | ref {i : Nat} {k : Kn} {x : Int} (hi : Reach K i) (h : K[i]? = some k) (hx : x ∈ k.f) (h0 : 0 ≤ x) : Reach K x.toNat

/-- Only what is reached is marked. -/
def Sound (K : List Kn) (o : List Bool) : Prop := ∀ i, o[i]? = some true → Reach K i
/-- What was marked stays. -/
def Mono (o o' : List Bool) : Prop := ∀ i : Nat, o[i]? = some true → o'[i]? = some true

theorem Mono.refl (o : List Bool) : Mono o o := fun _ h => h
theorem Mono.trans {a b c : List Bool} (h : Mono a b) (k : Mono b c) : Mono a c := fun i hi => k i (h i hi)
theorem mono_set (o : List Bool) (i : Nat) : Mono o (o.set i true) := fun j hj => by
  rw [List.getElem?_set]
  split
  · subst i
    have := (List.getElem?_eq_some_iff.1 hj).1
    rw [if_pos this]
  · exact hj
theorem markTo_mono (o : List Bool) (f : List Int) (j : Nat) : Mono o (markTo o f j) := by
  induction j with
  | zero => exact Mono.refl _
  | succ j ih =>
    unfold markTo
    split
    · split
      · exact ih.trans (mono_set _ _)
      · exact ih
    · exact ih
theorem passTo_mono (K : List Kn) (o : List Bool) (i : Nat) : Mono o (passTo K o i) := by
  induction i with
  | zero => exact Mono.refl _
  | succ i ih =>
    unfold passTo
    split
    · split
      · exact ih.trans (markTo_mono _ _ _)
      · exact ih
    · exact ih
theorem roundsTo_mono (K : List Kn) (n : Nat) : Mono (K.map (·.r)) (roundsTo K n) := by
  induction n with
  | zero => exact Mono.refl _
  | succ n ih => exact ih.trans (passTo_mono _ _ _)

theorem markTo_sound {K : List Kn} {o : List Bool} (f : List Int) (hf : ∀ x ∈ f, 0 ≤ x → Reach K x.toNat) (ho : Sound K o) (j : Nat) : Sound K (markTo o f j) := by
  induction j with
  | zero => exact ho
  | succ j ih =>
    unfold markTo
    split
    · rename_i x hx
      split
      · rename_i h0
        intro i hi
        rw [List.getElem?_set] at hi
        split at hi
        · rename_i e
          rw [← e]
          exact hf x (List.mem_of_getElem? hx) h0
        · exact ih i hi
      · exact ih
    · exact ih
theorem passTo_sound {K : List Kn} {o : List Bool} (ho : Sound K o) (i : Nat) : Sound K (passTo K o i) := by
  induction i with
  | zero => exact ho
  | succ i ih =>
    unfold passTo
    split
    · rename_i k hk
      split
      · rename_i ht
        exact markTo_sound _ (fun x hx h0 => .ref (ih i ht) hk hx h0) ih _
      · exact ih
    · exact ih
theorem roundsTo_sound (K : List Kn) (n : Nat) : Sound K (roundsTo K n) := by
  induction n with
  | zero =>
    intro i hi
    unfold roundsTo at hi
    rw [List.getElem?_map, Option.map_eq_some_iff] at hi
    obtain ⟨k, hk, hr⟩ := hi
    exact .root hk hr
  | succ n ih => exact passTo_sound ih _

/-- Nothing more is to be marked. -/
def Closed (K : List Kn) (o : List Bool) : Prop := ∀ (i : Nat) (k : Kn) (x : Int), o[i]? = some true → K[i]? = some k → x ∈ k.f → 0 ≤ x → o[x.toNat]? = some true
theorem markTo_has {o : List Bool} {f : List Int} {j m : Nat} {x : Int} (hj : f[j]? = some x) (h0 : 0 ≤ x) (hlt : x.toNat < o.length) (hm : j < m) : (markTo o f m)[x.toNat]? = some true := by
  induction m with
  | zero => omega
  | succ m ih =>
    by_cases hq : j = m
    · subst hq
      unfold markTo
      rw [hj]
      simp only [if_pos h0]
      rw [List.getElem?_set_self (by rw [markTo_length]; exact hlt)]
    · have h1 := ih (by omega)
      unfold markTo
      split
      · split
        · exact mono_set _ _ _ h1
        · exact h1
      · exact h1
theorem passTo_has {K : List Kn} {o : List Bool} {i m : Nat} {k : Kn} {x : Int} (hi : o[i]? = some true) (hk : K[i]? = some k) (hx : x ∈ k.f) (h0 : 0 ≤ x) (hlt : x.toNat < o.length) (hm : i < m) : (passTo K o m)[x.toNat]? = some true := by
  induction m with
  | zero => omega
  | succ m ih =>
    by_cases hq : i = m
    · subst hq
      unfold passTo
      rw [hk]
      have h1 : (passTo K o i)[i]? = some true := passTo_mono K o i i hi
      simp only [if_pos h1]
      obtain ⟨j, hj, he⟩ := List.getElem_of_mem hx
      exact markTo_has (j := j) (by rw [List.getElem?_eq_getElem hj, he]) h0 (by rw [passTo_length]; exact hlt) hj
    · have h1 := ih (by omega)
      unfold passTo
      split
      · split
        · exact markTo_mono _ _ _ _ h1
        · exact h1
      · exact h1
/-- All references lead into the web. -/
def Inside (K : List Kn) : Prop := ∀ (i : Nat) (k : Kn) (x : Int), K[i]? = some k → x ∈ k.f → 0 ≤ x → x.toNat < K.length
theorem closed_of_stable {K : List Kn} {o : List Bool} (hin : Inside K) (hl : o.length = K.length) (h : passTo K o K.length = o) : Closed K o := by
  intro i k x hi hk hx h0
  have := passTo_has (m := K.length) hi hk hx h0 (by rw [hl]; exact hin i k x hk hx h0) (List.getElem?_eq_some_iff.1 hk).1
  rwa [h] at this

theorem count_mono {o o' : List Bool} (hl : o.length = o'.length) (h : Mono o o') : o.count true ≤ o'.count true ∧ (o.count true = o'.count true → o = o') := by
  induction o generalizing o' with
  | nil =>
    cases o' with
    | nil => exact ⟨Nat.le_refl _, fun _ => rfl⟩
    | cons b o' => simp at hl
  | cons a o ih =>
    cases o' with
    | nil => simp at hl
    | cons b o' =>
      have h1 := ih (o' := o') (by simpa using hl) (fun i hi => by have := h (i + 1) (by simpa using hi); simpa using this)
      have h2 : a = true → b = true := fun ha => by have := h 0 (by simp [ha]); simpa using this
      cases a <;> cases b <;> simp_all <;> omega
theorem count_le (o : List Bool) : o.count true ≤ o.length := List.count_le_length
theorem all_true {o : List Bool} (h : o.length ≤ o.count true) : ∀ i, i < o.length → o[i]? = some true := by
  have h1 : o.count true = o.length := Nat.le_antisymm (count_le o) h
  intro i hi
  have h2 := (List.count_eq_length.1 h1) (o[i]) (List.getElem_mem hi)
  rw [List.getElem?_eq_getElem hi, ← h2]

theorem rounds_stable {K : List Kn} {j : Nat} (h : passTo K (roundsTo K j) K.length = roundsTo K j) : ∀ m, j ≤ m → roundsTo K m = roundsTo K j := by
  intro m hm
  induction m with
  | zero =>
    have : j = 0 := by omega
    rw [this]
  | succ m ih =>
    by_cases hq : j = m + 1
    · rw [hq]
    · have h1 := ih (by omega)
      show passTo K (roundsTo K m) K.length = _
      rw [h1, h]
theorem rounds_grow (K : List Kn) (m : Nat) : (∃ j, j ≤ m ∧ passTo K (roundsTo K j) K.length = roundsTo K j) ∨ m ≤ (roundsTo K m).count true := by
  induction m with
  | zero => exact .inr (Nat.zero_le _)
  | succ m ih =>
    rcases ih with ⟨j, hj, h⟩ | h
    · exact .inl ⟨j, by omega, h⟩
    · by_cases hq : passTo K (roundsTo K m) K.length = roundsTo K m
      · exact .inl ⟨m, by omega, hq⟩
      · right
        have h1 := count_mono (o := roundsTo K m) (o' := roundsTo K (m + 1)) (by rw [roundsTo_length, roundsTo_length]) (passTo_mono _ _ _)
        have h2 : (roundsTo K m).count true ≠ (roundsTo K (m + 1)).count true := fun e => hq (h1.2 e).symm
        omega
theorem reach_closed {K : List Kn} (hin : Inside K) : Closed K (reachL K) := by
  unfold reachL
  rcases rounds_grow K K.length with ⟨j, hj, h⟩ | h
  · rw [rounds_stable h _ hj]
    exact closed_of_stable hin (roundsTo_length _ _) h
  · intro i k x hi hk hx h0
    exact all_true (by rw [roundsTo_length]; exact h) _ (by rw [roundsTo_length]; exact hin i k x hk hx h0)
/-- The model's way finds just what is reached. -/
theorem reach_iff {K : List Kn} (hin : Inside K) (i : Nat) : (reachL K)[i]? = some true ↔ Reach K i := by
  refine ⟨fun h => roundsTo_sound K _ i h, fun h => ?_⟩
  induction h with
  | root h hr =>
    refine roundsTo_mono K K.length _ ?_
    rw [List.getElem?_map, h]
    simp [hr]
  | ref hi h hx h0 ih => exact reach_closed hin _ _ _ ih h hx h0
theorem web_inside {K : List Kn} (h : webB K = true) : Inside K := fun i k x hk hx h0 => by
  have := ((web_parts h).2 i k hk).2.2 x hx
  omega
/-- What is reached is there. -/
theorem reach_there {K : List Kn} (h : webB K = true) {i : Nat} (hr : Reach K i) : ∃ k, K[i]? = some k ∧ k.t = true := by
  have hw := web_parts h
  cases hr with
  | root hk hr =>
    rename_i k
    refine ⟨k, hk, ?_⟩
    cases ht : k.t with
    | true => rfl
    | false => have := ((hw.2 _ _ hk).2.1 ht).1; rw [this] at hr; cases hr
  | ref hi hk hx h0 => exact ((hw.2 _ _ hk).2.2 _ hx).2.2 h0
end Go.Proofs.Ytmipkngikimjgab.Pure

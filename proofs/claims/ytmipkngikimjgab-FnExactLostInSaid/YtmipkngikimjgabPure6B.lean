/-
  Chapter 6 on lists, by the program's own way: each slot bears a mark (0: none, 1: fresh, 2: followed), and the fresh ones are followed one by one. No memory, no program.
-/
import Derived.Test.YtmipkngikimjgabPure6
namespace Go.Proofs.Ytmipkngikimjgab.Pure
set_option linter.unusedVariables false

def putM (M : List Nat) (x : Nat) : List Nat := if M[x]? = some 0 then M.set x 1 else M
/-- .. after j references. -/
def putsM (M : List Nat) (f : List Int) : Nat → List Nat
  | 0 => M
  | j + 1 => match f[j]? with
    | some x => if 0 ≤ x then putM (putsM M f j) x.toNat else putsM M f j
    | none => putsM M f j
/-- .. after i knots. -/
def rootsM (K : List Kn) : Nat → List Nat
  | 0 => List.replicate K.length 0
  | i + 1 => match K[i]? with
    | some k => if k.r = true then putM (rootsM K i) i else rootsM K i
    | none => rootsM K i
def followM (M : List Nat) (x : Nat) (f : List Int) : List Nat := putsM (M.set x 2) f f.length
def markedB (M : List Nat) : List Bool := M.map (fun m => decide (m ≠ 0))

theorem putM_length (M : List Nat) (x : Nat) : (putM M x).length = M.length := by
  unfold putM
  split
  · rw [List.length_set]
  · rfl
theorem putsM_length (M : List Nat) (f : List Int) (j : Nat) : (putsM M f j).length = M.length := by
  induction j with
  | zero => rfl
  | succ j ih =>
    unfold putsM
    split
    · split
      · rw [putM_length, ih]
      · exact ih
    · exact ih
theorem rootsM_length (K : List Kn) (i : Nat) : (rootsM K i).length = K.length := by
  induction i with
  | zero => simp [rootsM]
  | succ i ih =>
    unfold rootsM
    split
    · split
      · rw [putM_length, ih]
      · exact ih
    · exact ih
theorem followM_length (M : List Nat) (x : Nat) (f : List Int) : (followM M x f).length = M.length := by unfold followM; rw [putsM_length, List.length_set]

theorem sum_set {M : List Nat} {x m : Nat} (h : M[x]? = some m) (m' : Nat) : (M.set x m').sum + m = M.sum + m' := by
  induction M generalizing x with
  | nil => simp at h
  | cons a M ih =>
    cases x with
    | zero =>
      simp at h
      subst h
      simp
      omega
    | succ x =>
      simp at h
      have := ih h
      simp
      omega
theorem putM_sum (M : List Nat) (x : Nat) : M.sum ≤ (putM M x).sum ∧ (putM M x).sum ≤ M.sum + 1 := by
  unfold putM
  split
  · rename_i h
    have := sum_set h 1
    omega
  · omega
theorem putsM_sum (M : List Nat) (f : List Int) (j : Nat) : M.sum ≤ (putsM M f j).sum := by
  induction j with
  | zero => exact Nat.le_refl _
  | succ j ih =>
    unfold putsM
    split
    · split
      · exact Nat.le_trans ih (putM_sum _ _).1
      · exact ih
    · exact ih
theorem followM_sum {M : List Nat} {x : Nat} (h : M[x]? = some 1) (f : List Int) : M.sum + 1 ≤ (followM M x f).sum := by
  have h1 := sum_set h 2
  have h2 := putsM_sum (M.set x 2) f f.length
  unfold followM
  omega

/-- No mark but these three. -/
def Three (M : List Nat) : Prop := ∀ m ∈ M, m ≤ 2
theorem Three.sum {M : List Nat} (h : Three M) : M.sum ≤ 2 * M.length := by
  induction M with
  | nil => simp
  | cons a M ih =>
    have h1 := h a (by simp)
    have h2 := ih (fun m hm => h m (by simp [hm]))
    simp
    omega
theorem Three.set {M : List Nat} (h : Three M) (x : Nat) {m : Nat} (hm : m ≤ 2) : Three (M.set x m) := fun a ha => by
  rcases List.mem_or_eq_of_mem_set ha with h1 | h1
  · exact h a h1
  · omega
theorem Three.put {M : List Nat} (h : Three M) (x : Nat) : Three (putM M x) := by
  unfold putM
  split
  · exact h.set x (by omega)
  · exact h
theorem Three.puts {M : List Nat} (h : Three M) (f : List Int) (j : Nat) : Three (putsM M f j) := by
  induction j with
  | zero => exact h
  | succ j ih =>
    unfold putsM
    split
    · split
      · exact ih.put _
      · exact ih
    · exact ih
theorem three_roots (K : List Kn) (i : Nat) : Three (rootsM K i) := by
  induction i with
  | zero => intro m hm; unfold rootsM at hm; rw [List.mem_replicate] at hm; omega
  | succ i ih =>
    unfold rootsM
    split
    · split
      · exact ih.put _
      · exact ih
    · exact ih

/-- Is the slot marked? -/
def Mk (M : List Nat) (x : Nat) : Prop := ∃ m, M[x]? = some m ∧ m ≠ 0
theorem mk_put {M : List Nat} {x y : Nat} (h : Mk M y) : Mk (putM M x) y := by
  obtain ⟨m, h1, h2⟩ := h
  unfold putM
  split
  · rename_i h0
    have hne : x ≠ y := fun e => by subst e; rw [h1] at h0; injection h0; omega
    exact ⟨m, by rw [List.getElem?_set_ne hne]; exact h1, h2⟩
  · exact ⟨m, h1, h2⟩
theorem mk_put_self {M : List Nat} {x : Nat} (h : x < M.length) : Mk (putM M x) x := by
  unfold putM
  split
  · exact ⟨1, List.getElem?_set_self h, by omega⟩
  · rename_i h0
    refine ⟨M[x], List.getElem?_eq_getElem h, fun e => h0 ?_⟩
    rw [List.getElem?_eq_getElem h, e]
theorem mk_puts {M : List Nat} {f : List Int} {j y : Nat} (h : Mk M y) : Mk (putsM M f j) y := by
  induction j with
  | zero => exact h
  | succ j ih =>
    unfold putsM
    split
    · split
      · exact mk_put ih
      · exact ih
    · exact ih
theorem mk_puts_self {M : List Nat} {f : List Int} {i j : Nat} {x : Int} (hx : f[i]? = some x) (h0 : 0 ≤ x) (hl : x.toNat < M.length) (hij : i < j) : Mk (putsM M f j) x.toNat := by
  induction j with
  | zero => omega
  | succ j ih =>
    by_cases hq : i = j
    · subst hq
      unfold putsM
      rw [hx]
      simp only [if_pos h0]
      exact mk_put_self (by rw [putsM_length]; exact hl)
    · have h1 := ih (by omega)
      unfold putsM
      split
      · split
        · exact mk_put h1
        · exact h1
      · exact h1

/-- Only what is reached bears a mark. -/
def SoundM (K : List Kn) (M : List Nat) : Prop := ∀ i, Mk M i → Reach K i
theorem SoundM.put {K : List Kn} {M : List Nat} (h : SoundM K M) {x : Nat} (hx : Reach K x) : SoundM K (putM M x) := by
  intro i hi
  unfold putM at hi
  split at hi
  · by_cases e : x = i
    · subst e; exact hx
    · obtain ⟨m, h1, h2⟩ := hi
      rw [List.getElem?_set_ne e] at h1
      exact h i ⟨m, h1, h2⟩
  · exact h i hi
theorem SoundM.puts {K : List Kn} {M : List Nat} (h : SoundM K M) {f : List Int} (hf : ∀ x ∈ f, 0 ≤ x → Reach K x.toNat) (j : Nat) : SoundM K (putsM M f j) := by
  induction j with
  | zero => exact h
  | succ j ih =>
    unfold putsM
    split
    · rename_i x hx
      split
      · rename_i h0
        exact ih.put (hf x (List.mem_of_getElem? hx) h0)
      · exact ih
    · exact ih
theorem sound_roots (K : List Kn) (i : Nat) : SoundM K (rootsM K i) := by
  induction i with
  | zero =>
    rintro j ⟨m, h1, h2⟩
    unfold rootsM at h1
    have := List.mem_of_getElem? h1
    rw [List.mem_replicate] at this
    omega
  | succ i ih =>
    unfold rootsM
    split
    · rename_i k hk
      split
      · rename_i hr
        exact ih.put (.root hk hr)
      · exact ih
    · exact ih
theorem roots_mk {K : List Kn} {i j : Nat} {k : Kn} (hk : K[i]? = some k) (hr : k.r = true) (hij : i < j) : Mk (rootsM K j) i := by
  induction j with
  | zero => omega
  | succ j ih =>
    by_cases hq : i = j
    · subst hq
      unfold rootsM
      rw [hk]
      simp only [if_pos hr]
      exact mk_put_self (by rw [rootsM_length]; exact (List.getElem?_eq_some_iff.1 hk).1)
    · have h1 := ih (by omega)
      unfold rootsM
      split
      · split
        · exact mk_put h1
        · exact h1
      · exact h1

/-- What holds of the marks from round to round. -/
structure GoodM (K : List Kn) (M : List Nat) : Prop where
  len : M.length = K.length
  three : Three M
  sound : SoundM K M
  roots : ∀ (i : Nat) (k : Kn), K[i]? = some k → k.r = true → Mk M i
  done : ∀ (i : Nat) (k : Kn) (x : Int), M[i]? = some 2 → K[i]? = some k → x ∈ k.f → 0 ≤ x → Mk M x.toNat
theorem putM_two {M : List Nat} {x i : Nat} (h : (putM M x)[i]? = some 2) : M[i]? = some 2 := by
  unfold putM at h
  split at h
  · rename_i h0
    have hl := (List.getElem?_eq_some_iff.1 h0).1
    by_cases e : x = i
    · subst e
      rw [List.getElem?_set_self hl] at h
      injection h
      omega
    · rwa [List.getElem?_set_ne e] at h
  · exact h
theorem putsM_two {M : List Nat} {f : List Int} {j i : Nat} (h : (putsM M f j)[i]? = some 2) : M[i]? = some 2 := by
  induction j with
  | zero => exact h
  | succ j ih =>
    unfold putsM at h
    split at h
    · split at h
      · exact ih (putM_two h)
      · exact ih h
    · exact ih h
theorem rootsM_two {K : List Kn} {j i : Nat} : (rootsM K j)[i]? ≠ some 2 := by
  induction j with
  | zero =>
    intro h
    unfold rootsM at h
    have := List.mem_of_getElem? h
    rw [List.mem_replicate] at this
    omega
  | succ j ih =>
    intro h
    unfold rootsM at h
    split at h
    · split at h
      · exact ih (putM_two h)
      · exact ih h
    · exact ih h
theorem good_roots (K : List Kn) : GoodM K (rootsM K K.length) :=
  ⟨rootsM_length _ _, three_roots _ _, sound_roots _ _, fun i k hk hr => roots_mk hk hr (List.getElem?_eq_some_iff.1 hk).1, fun i k x h => absurd h rootsM_two⟩
theorem mk_set_two {M : List Nat} {x y : Nat} (h : Mk M y) : Mk (M.set x 2) y := by
  obtain ⟨m, h1, h2⟩ := h
  by_cases e : x = y
  · subst e
    exact ⟨2, List.getElem?_set_self (List.getElem?_eq_some_iff.1 h1).1, by omega⟩
  · exact ⟨m, by rw [List.getElem?_set_ne e]; exact h1, h2⟩
theorem GoodM.follow {K : List Kn} {M : List Nat} (hin : Inside K) (h : GoodM K M) {x : Nat} {k : Kn} (hx : M[x]? = some 1) (hk : K[x]? = some k) : GoodM K (followM M x k.f) := by
  have hxl := (List.getElem?_eq_some_iff.1 hx).1
  have hrx : Reach K x := h.sound x ⟨1, hx, by omega⟩
  refine ⟨by rw [followM_length]; exact h.len, (h.three.set x (by omega)).puts _ _, ?_, fun i k2 hk2 hr => mk_puts (mk_set_two (h.roots i k2 hk2 hr)), ?_⟩
  · refine SoundM.puts (fun i hi => ?_) (fun y hy h0 => .ref hrx hk hy h0) _
    obtain ⟨m, h1, h2⟩ := hi
    by_cases e : x = i
    · subst e; exact hrx
    · rw [List.getElem?_set_ne e] at h1
      exact h.sound i ⟨m, h1, h2⟩
  · intro i k2 y hi hk2 hy h0
    have hi2 := putsM_two hi
    by_cases e : x = i
    · subst e
      rw [hk] at hk2
      injection hk2 with hk2
      subst hk2
      obtain ⟨j, hj, rfl⟩ := List.getElem_of_mem hy
      exact mk_puts_self (List.getElem?_eq_getElem hj) h0 (by rw [List.length_set, h.len]; exact hin x k _ hk hy h0) hj
    · rw [List.getElem?_set_ne e] at hi2
      exact mk_puts (mk_set_two (h.done i k2 y hi2 hk2 hy h0))
/-- Where no mark is fresh, the marked are just what the model's way finds. -/
theorem GoodM.end {K : List Kn} {M : List Nat} (hin : Inside K) (h : GoodM K M) (hno : ∀ i : Nat, i < M.length → M[i]? ≠ some 1) : markedB M = reachL K := by
  have hall : ∀ i, Reach K i → Mk M i := by
    intro i hr
    induction hr with
    | root hk hr => exact h.roots _ _ hk hr
    | ref hi hk hx h0 ih =>
      obtain ⟨m, h1, h2⟩ := ih
      have h3 := h.three m (List.mem_of_getElem? h1)
      have h4 : m ≠ 1 := fun e => hno _ (List.getElem?_eq_some_iff.1 h1).1 (by rw [h1, e])
      have h5 : m = 2 := by omega
      subst h5
      exact h.done _ _ _ h1 hk hx h0
  apply List.ext_getElem?
  intro i
  unfold markedB
  rw [List.getElem?_map]
  by_cases hi : i < M.length
  · rw [List.getElem?_eq_getElem hi, Option.map_some]
    have hl : i < (reachL K).length := by rw [reachL_length, ← h.len]; exact hi
    have hr := reach_iff hin i
    rw [List.getElem?_eq_getElem hl] at hr ⊢
    congr 1
    by_cases hm : M[i] = 0
    · rw [decide_eq_false (by omega)]
      cases hq : (reachL K)[i] with
      | false => rfl
      | true =>
        rw [hq] at hr
        obtain ⟨m, h1, h2⟩ := hall i (hr.1 rfl)
        rw [List.getElem?_eq_getElem hi] at h1
        injection h1 with h1
        omega
    · rw [decide_eq_true hm]
      have := hr.2 (h.sound i ⟨_, List.getElem?_eq_getElem hi, hm⟩)
      injection this with this
      exact this.symm
  · rw [List.getElem?_eq_none (by omega), List.getElem?_eq_none (by rw [reachL_length, ← h.len]; omega)]
    rfl

/-- The first fresh slot from i on back: none below i. -/
def NoneTo (M : List Nat) (i : Nat) : Prop := ∀ j : Nat, j < i → M[j]? ≠ some 1
theorem NoneTo.step {M : List Nat} {i : Nat} (h : NoneTo M i) (hi : M[i]? ≠ some 1) : NoneTo M (i + 1) := fun j hj => by
  by_cases e : j = i
  · subst e; exact hi
  · exact h j (by omega)

theorem putsM_yes {M : List Nat} {f : List Int} {j x : Nat} (h : f[j]? = some (x : Int)) : putsM M f (j + 1) = putM (putsM M f j) x := by
  show (match f[j]? with | some x => if 0 ≤ x then putM (putsM M f j) x.toNat else putsM M f j | none => putsM M f j) = _
  rw [h]
  dsimp only
  rw [if_pos (by omega)]
  rfl
theorem putsM_no {M : List Nat} {f : List Int} {j : Nat} {x : Int} (h : f[j]? = some x) (h0 : ¬ 0 ≤ x) : putsM M f (j + 1) = putsM M f j := by
  show (match f[j]? with | some x => if 0 ≤ x then putM (putsM M f j) x.toNat else putsM M f j | none => putsM M f j) = _
  rw [h]
  dsimp only
  rw [if_neg h0]
theorem rootsM_yes {K : List Kn} {i : Nat} {k : Kn} (h : K[i]? = some k) (hr : k.r = true) : rootsM K (i + 1) = putM (rootsM K i) i := by
  show (match K[i]? with | some k => if k.r = true then putM (rootsM K i) i else rootsM K i | none => rootsM K i) = _
  rw [h]
  dsimp only
  rw [if_pos hr]
theorem rootsM_no {K : List Kn} {i : Nat} {k : Kn} (h : K[i]? = some k) (hr : ¬ k.r = true) : rootsM K (i + 1) = rootsM K i := by
  show (match K[i]? with | some k => if k.r = true then putM (rootsM K i) i else rootsM K i | none => rootsM K i) = _
  rw [h]
  dsimp only
  rw [if_neg hr]
end Go.Proofs.Ytmipkngikimjgab.Pure

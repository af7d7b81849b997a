/-
  Words for slices of structs in memory: a slice that reads as rows of cells, a row of the call's own, its cells written, one more row appended. No condition.
-/
import Derived.Test.YtmipkngikimjgaaMem
import Derived.Maps.AppendAt
import Derived.OwnWalkIn
namespace Go.Proofs.Ytmipkngikimjgaa.Seq
open Go.RowKit Go.Proofs.Ytmipkngikimjgaa.Mem
set_option linter.unusedVariables false

/-! ### lists of rows -/
theorem flat_length {sz : Nat} {R : List (List Value)} (h : ∀ r ∈ R, r.length = sz) : R.flatten.length = R.length * sz := by
  induction R with
  | nil => simp
  | cons r R ih =>
    rw [List.flatten_cons, List.length_append, h r (by simp), ih (fun x hx => h x (by simp [hx])), List.length_cons, Nat.add_mul, Nat.one_mul, Nat.add_comm]
theorem flat_get {sz : Nat} {R : List (List Value)} (h : ∀ r ∈ R, r.length = sz) {i j : Nat} {r : List Value} (hi : R[i]? = some r) (hj : j < sz) : R.flatten[i * sz + j]? = r[j]? := by
  induction R generalizing i with
  | nil => simp at hi
  | cons a R ih =>
    have ha := h a (by simp)
    cases i with
    | zero =>
      simp at hi
      subst hi
      rw [List.flatten_cons, List.getElem?_append_left (by omega), Nat.zero_mul, Nat.zero_add]
    | succ i =>
      rw [List.getElem?_cons_succ] at hi
      rw [List.flatten_cons, List.getElem?_append_right (by rw [ha, Nat.add_mul]; omega), ← ih (fun x hx => h x (by simp [hx])) hi]
      congr 1
      rw [ha, Nat.add_mul]
      omega
theorem flat_set {sz : Nat} {R : List (List Value)} (h : ∀ r ∈ R, r.length = sz) {i j : Nat} {r : List Value} (hi : R[i]? = some r) (hj : j < sz) (u : Value) : R.flatten.set (i * sz + j) u = (R.set i (r.set j u)).flatten := by
  induction R generalizing i with
  | nil => simp at hi
  | cons a R ih =>
    have ha := h a (by simp)
    cases i with
    | zero =>
      simp at hi
      subst hi
      rw [List.flatten_cons, Nat.zero_mul, Nat.zero_add, List.set_append_left _ _ (by omega), List.set_cons_zero, List.flatten_cons]
    | succ i =>
      rw [List.getElem?_cons_succ] at hi
      rw [List.flatten_cons, List.set_append_right _ _ (by rw [ha, Nat.add_mul]; omega), List.set_cons_succ, List.flatten_cons, ← ih (fun x hx => h x (by simp [hx])) hi]
      congr 2
      rw [ha, Nat.add_mul]
      omega
theorem all_set {sz : Nat} {R : List (List Value)} (h : ∀ r ∈ R, r.length = sz) {i : Nat} {r : List Value} (hr : r.length = sz) : ∀ x ∈ R.set i r, x.length = sz := by
  intro x hx
  rcases List.mem_or_eq_of_mem_set hx with h1 | rfl
  · exact h x h1
  · exact hr

/-- The slice v reads as the rows R, of sz cells each; its cells lie in the blocks from lo to below hi. -/
def RdR (w : World) (lo hi sz : Nat) (v : Value) (R : List (List Value)) : Prop :=
  ∃ A c, v = .slice A R.length c ∧ R.length ≤ c ∧ c ≤ maxLen ∧
    ∀ i r, R[i]? = some r → ∃ b o, A = some ⟨b, o, none⟩ ∧ lo ≤ b ∧ b < hi ∧ b < w.heap.size ∧ ∀ j u, j < sz → r[j]? = some u → w.cell? ⟨b, o + i * sz + j, none⟩ = some u

/-- The slice v is nil and R is empty, or v stands at the head of a row of the call's own (elements of type t, sz cells each) that begins with the rows R. -/
def OwnR (w : World) (lo hi : Nat) (t : TypeId) (sz : Nat) (v : Value) (R : List (List Value)) : Prop :=
  (∀ r ∈ R, r.length = sz) ∧ ((v = .slice none 0 0 ∧ R = []) ∨
  ∃ g cap cur, v = .slice (some ⟨g, 0, none⟩) R.length cap ∧ lo ≤ g ∧ g < hi ∧ w.heap[g]? = some (.cells cur t (0, 0)) ∧
    R.length ≤ cap ∧ cap ≤ maxLen ∧ cur.size = cap * sz ∧ cur.toList.take (R.length * sz) = R.flatten)

section
variable {w w' : World} {lo hi lo' hi' sz : Nat} {t : TypeId} {v : Value} {R : List (List Value)}

theorem RdR.touch (h : RdR w lo hi sz v R) (ht : OnlyIn lo' hi' w w') (hd : hi ≤ lo' ∨ hi' ≤ lo) : RdR w' lo hi sz v R := by
  obtain ⟨A, c, hv, hc, hm, hk⟩ := h
  refine ⟨A, c, hv, hc, hm, fun i r hr => ?_⟩
  obtain ⟨b, o, hA, h1, h2, h3, h4⟩ := hk i r hr
  exact ⟨b, o, hA, h1, h2, Nat.lt_of_lt_of_le h3 ht.size, fun j u hj hu => (World.cell?_of_block (ht.block b h3 (by omega))).trans (h4 j u hj hu)⟩
theorem RdR.below (h : RdR w lo hi sz v R) (hb : Below w.heap.size w w') : RdR w' lo hi sz v R := h.touch (lo' := hi) (hi' := hi) (OnlyIn.of_below hb) (.inl (Nat.le_refl _))
theorem RdR.more (h : RdR w lo hi sz v R) (h1 : lo' ≤ lo) (h2 : hi ≤ hi') : RdR w lo' hi' sz v R := by
  obtain ⟨A, c, hv, hc, hm, hk⟩ := h
  refine ⟨A, c, hv, hc, hm, fun i r hr => ?_⟩
  obtain ⟨b, o, hA, h3, h4, h5⟩ := hk i r hr
  exact ⟨b, o, hA, by omega, by omega, h5⟩
theorem RdR.len (h : RdR w lo hi sz v R) : R.length ≤ maxLen := by
  obtain ⟨A, c, hv, hc, hm, hk⟩ := h
  omega
theorem RdR.spot {A : Option Addr} {n c : Nat} (h : RdR w lo hi sz (.slice A n c) R) {i : Nat} {r : List Value} (hi' : R[i]? = some r) :
    ∃ b o, A = some ⟨b, o, none⟩ ∧ lo ≤ b ∧ b < hi ∧ b < w.heap.size ∧ ∀ j u, j < sz → r[j]? = some u → w.cell? ⟨b, o + i * sz + j, none⟩ = some u := by
  obtain ⟨A', c', hv, hc, hm, hcell⟩ := h
  injection hv with hv1 hv2 hv3
  subst hv1
  exact hcell i r hi'

theorem OwnR.touch (h : OwnR w lo hi t sz v R) (ht : OnlyIn lo' hi' w w') (hd : hi ≤ lo' ∨ hi' ≤ lo) : OwnR w' lo hi t sz v R := by
  obtain ⟨h0, h⟩ := h
  refine ⟨h0, ?_⟩
  rcases h with h | ⟨g, cap, cur, hv, h1, h2, h3, h4⟩
  · exact .inl h
  · refine .inr ⟨g, cap, cur, hv, h1, h2, ?_, h4⟩
    rw [ht.block g (Array.getElem?_eq_some_iff.1 h3).1 (by omega)]
    exact h3
/-- .. where only its own block must have stayed. -/
theorem OwnR.kept (h : OwnR w lo hi t sz v R) (hk : ∀ g, v.ownBlock = some g → w'.heap[g]? = w.heap[g]?) : OwnR w' lo hi t sz v R := by
  obtain ⟨h0, h⟩ := h
  refine ⟨h0, ?_⟩
  rcases h with h | ⟨g, cap, cur, hv, h1, h2, h3, h4⟩
  · exact .inl h
  · refine .inr ⟨g, cap, cur, hv, h1, h2, ?_, h4⟩
    rw [hk g (by rw [hv]; rfl)]
    exact h3
theorem OwnR.below (h : OwnR w lo hi t sz v R) (hb : Below w.heap.size w w') : OwnR w' lo hi t sz v R := h.touch (lo' := hi) (hi' := hi) (OnlyIn.of_below hb) (.inl (Nat.le_refl _))
theorem OwnR.more (h : OwnR w lo hi t sz v R) (h1 : lo' ≤ lo) (h2 : hi ≤ hi') : OwnR w lo' hi' t sz v R := by
  obtain ⟨h0, h⟩ := h
  refine ⟨h0, ?_⟩
  rcases h with h | ⟨g, cap, cur, hv, h3, h4, h5⟩
  · exact .inl h
  · exact .inr ⟨g, cap, cur, hv, by omega, by omega, h5⟩
theorem OwnR.rd (h : OwnR w lo hi t sz v R) : RdR w lo hi sz v R := by
  obtain ⟨h0, h⟩ := h
  rcases h with ⟨rfl, rfl⟩ | ⟨g, cap, cur, rfl, h1, h2, h3, h4, h5, h6, h7⟩
  · exact ⟨none, 0, rfl, Nat.le_refl _, Nat.zero_le _, fun k r hk => by simp at hk⟩
  · refine ⟨_, cap, rfl, h4, h5, fun i r hr => ⟨g, 0, rfl, h1, h2, (Array.getElem?_eq_some_iff.1 h3).1, fun j u hj hu => ?_⟩⟩
    have hil : i < R.length := (List.getElem?_eq_some_iff.1 hr).1
    have hle : i * sz + j < R.length * sz := by
      have : (i + 1) * sz ≤ R.length * sz := Nat.mul_le_mul_right _ hil
      rw [Nat.add_mul] at this
      omega
    rw [Nat.zero_add, cell_of_row w g (i * sz + j) cur t (0, 0) h3]
    have e1 : (cur.toList.take (R.length * sz))[i * sz + j]? = cur[i * sz + j]? := by rw [List.getElem?_take, if_pos hle]; simp
    rw [← e1, h7, flat_get h0 hr hj, hu]

/-- What a write into a cell of the row of one's own does, and what it asks. -/
theorem OwnR.put {A : Option Addr} {n c : Nat} (h : OwnR w lo hi t sz (.slice A n c) R) {i : Nat} {r : List Value} (hr : R[i]? = some r) :
    ∃ g, A = some ⟨g, 0, none⟩ ∧ lo ≤ g ∧ g < hi ∧ g < w.heap.size ∧ ∀ j, j < sz → w.frozen? ⟨g, i * sz + j, none⟩ = false ∧ (∃ u, r[j]? = some u ∧ w.cell? ⟨g, i * sz + j, none⟩ = some u) ∧
      ∀ x : Value, OwnR (w.setCell ⟨g, i * sz + j, none⟩ x) lo hi t sz (.slice A n c) (R.set i (r.set j x)) ∧ OnlyIn lo hi w (w.setCell ⟨g, i * sz + j, none⟩ x) := by
  have hrd := h.rd
  obtain ⟨h0, h⟩ := h
  have hil : i < R.length := (List.getElem?_eq_some_iff.1 hr).1
  have hrl : r.length = sz := h0 r (List.mem_of_getElem? hr)
  rcases h with ⟨_, rfl⟩ | ⟨g, cap, cur, hv, h1, h2, h3, h4, h5, h6, h7⟩
  · simp at hil
  · injection hv with hA hn hc
    subst hA hn hc
    refine ⟨g, rfl, h1, h2, (Array.getElem?_eq_some_iff.1 h3).1, fun j hj => ⟨?_, ?_, fun x => ⟨⟨all_set h0 (by rw [List.length_set]; exact hrl), ?_⟩, rfl, rfl, rfl, by simp, fun k hk hn => Below.heap_setCell w _ _ k ?_⟩⟩⟩
    · simp [World.frozen?, h3]
    · obtain ⟨b, o, hA, _, _, _, hcell⟩ := hrd.spot hr
      injection hA with hA
      injection hA with e1 e2
      subst e1 e2
      refine ⟨r[j]'(by omega), List.getElem?_eq_getElem (by omega), ?_⟩
      have := hcell j _ hj (List.getElem?_eq_getElem (by omega))
      rwa [Nat.zero_add] at this
    · refine .inr ⟨g, c, cur.setIfInBounds (i * sz + j) x, by simp, h1, h2, ?_, by simpa using h4, h5, by simpa using h6, ?_⟩
      · simp [World.setCell, Array.getElem?_modify, h3]
      · rw [List.length_set, Array.toList_setIfInBounds, ← flat_set h0 hr hj x, ← h7, List.take_set]
    · show k ≠ g
      omega

/-- A store of cells one behind the other. -/
def setRowAt (w : World) (g o : Nat) : List Value → World
  | [] => w
  | x :: xs => setRowAt (w.setCell ⟨g, o, none⟩ x) g (o + 1) xs
theorem OwnR.puts {g n c i : Nat} (xs : List Value) : ∀ {w : World} {R : List (List Value)} {r : List Value} {j : Nat}, OwnR w lo hi t sz (.slice (some ⟨g, 0, none⟩) n c) R → R[i]? = some r → j + xs.length ≤ sz →
    OwnR (setRowAt w g (i * sz + j) xs) lo hi t sz (.slice (some ⟨g, 0, none⟩) n c) (R.set i (r.take j ++ (xs ++ r.drop (j + xs.length)))) ∧ OnlyIn lo hi w (setRowAt w g (i * sz + j) xs) := by
  induction xs with
  | nil =>
    intro w R r j h hr hj
    rw [List.nil_append, List.length_nil, Nat.add_zero, List.take_append_drop]
    have e : R.set i r = R := by
      apply List.ext_getElem?
      intro q
      rw [List.getElem?_set]
      split
      · subst i
        have hq := (List.getElem?_eq_some_iff.1 hr).1
        rw [if_pos hq, hr]
      · rfl
    rw [e]
    exact ⟨h, OnlyIn.refl _ _ _⟩
  | cons x xs ih =>
    intro w R r j h hr hj
    rw [List.length_cons] at hj
    have hrl : r.length = sz := h.1 r (List.mem_of_getElem? hr)
    have hil : i < R.length := (List.getElem?_eq_some_iff.1 hr).1
    obtain ⟨g', hA, _, _, _, hput⟩ := h.put hr
    injection hA with hA
    injection hA with hA
    subst hA
    obtain ⟨_, _, hx⟩ := hput j (by omega)
    obtain ⟨p1, p2⟩ := hx x
    have hr2 : (R.set i (r.set j x))[i]? = some (r.set j x) := by rw [List.getElem?_set_self hil]
    obtain ⟨q1, q2⟩ := ih (j := j + 1) p1 hr2 (by omega)
    rw [List.set_set] at q1
    have e : (r.set j x).take (j + 1) ++ (xs ++ (r.set j x).drop (j + 1 + xs.length)) = r.take j ++ ((x :: xs) ++ r.drop (j + (x :: xs).length)) := by
      rw [List.drop_set_of_lt (by omega), List.take_set, List.take_succ_eq_append_getElem (by omega), List.set_append_right _ _ (by rw [List.length_take]; omega), List.length_take, show j - min j r.length = 0 by omega, List.set_cons_zero, List.length_cons, List.append_assoc, show j + 1 + xs.length = j + (xs.length + 1) by omega]
      rfl
    rw [e] at q1
    exact ⟨q1, p2.trans q2⟩

theorem ownR_of_row {base n : Nat} {xs : List Value} (h0 : ∀ r ∈ R, r.length = sz) (h : w.ownsRow base t sz v n xs) (hn : n = R.length) (hx : xs = R.flatten) : OwnR w base w.heap.size t sz v R := by
  subst hn hx
  refine ⟨h0, ?_⟩
  rcases h.2 with ⟨rfl, h0⟩ | ⟨g, cap, cur, rfl, h1, h2, h3, h4, h5, h6⟩
  · exact .inl ⟨rfl, List.eq_nil_of_length_eq_zero h0⟩
  · exact .inr ⟨g, cap, cur, rfl, h1, (Array.getElem?_eq_some_iff.1 h2).1, h2, h3, h4, h5, h6⟩
theorem row_of_ownR (h : OwnR w lo hi t sz v R) : w.ownsRow lo t sz v R.length R.flatten := by
  obtain ⟨h0, h⟩ := h
  refine ⟨flat_length h0, ?_⟩
  rcases h with ⟨rfl, rfl⟩ | ⟨g, cap, cur, rfl, h1, h2, h3, h4, h5, h6, h7⟩
  · exact .inl ⟨rfl, rfl⟩
  · exact .inr ⟨g, cap, cur, rfl, h1, h3, h4, h5, h6, h7⟩
theorem OwnR.blk (h : OwnR w lo hi t sz v R) {g : Nat} (hg : v.ownBlock = some g) : lo ≤ g ∧ g < hi ∧ g < w.heap.size ∧ ∃ cur, w.heap[g]? = some (.cells cur t (0, 0)) := by
  rcases h.2 with ⟨rfl, _⟩ | ⟨g', cap, cur, rfl, h1, h2, h3, _⟩
  · simp [Value.ownBlock] at hg
  · simp [Value.ownBlock] at hg
    subst hg
    exact ⟨h1, h2, (Array.getElem?_eq_some_iff.1 h3).1, cur, h3⟩
theorem OwnR.form (h : OwnR w lo hi t sz v R) : ∃ A n c, v = .slice A n c := by
  obtain ⟨A, c, hv, _⟩ := h.rd
  exact ⟨A, _, c, hv⟩
theorem ownR_nil (w : World) (lo hi : Nat) (t : TypeId) (sz : Nat) : OwnR w lo hi t sz (.slice none 0 0) [] := ⟨by simp, .inl ⟨rfl, rfl⟩⟩
/-- An empty literal. -/
theorem ownR_made (w : World) (lo : Nat) (h : lo ≤ w.heap.size) (t : TypeId) (sz : Nat) : OwnR (w.alloc (.cells #[] t)) lo (w.alloc (.cells #[] t)).heap.size t sz (.slice (some ⟨w.heap.size, 0, none⟩) 0 0) [] :=
  ⟨by simp, .inr ⟨w.heap.size, 0, #[], rfl, h, by simp, heap_alloc_new w _, Nat.le_refl _, Nat.zero_le _, by simp, by simp⟩⟩
end

/-! ### one more row -/
section
variable {P : Program} {w : World} {lo hi sz : Nat} {t T : TypeId} {vr : Value} {R : List (List Value)} {r : List Value}

theorem run_append_r (T ty : TypeId) (z : Value) (bytes : Nat) (hu : P.underlying T = some (.slice t)) (hinfo : (P.info? t).map (fun i => (i.zero, i.size, i.bytes)) = some (some z, sz, bytes)) (hz : z.cells.size = sz) (hsz : 0 < sz)
    (hown : OwnR w lo hi t sz vr R) (b c : Nat) (hr : r.length = sz) (hc : ∀ j u, r[j]? = some u → w.cell? ⟨b, j, none⟩ = some u) (h1 : ∀ u ∈ r, u.oneCell' = true) (hlen : (R.length + 1) * bytes ≤ 140737488355328) (hlen2 : R.length + 1 ≤ maxLen) (hlo : lo ≤ w.heap.size) :
    ∃ v' w', (Builtin.append_ #[T, T] ty #[vr, .slice (some ⟨b, 0, none⟩) 1 c]).run P w = .ok v' w' ∧ OwnR w' lo w'.heap.size t sz v' (R ++ [r]) ∧ w.grownBy w' vr.ownBlock ∧ (v'.ownBlock = vr.ownBlock ∨ v'.ownBlock = some w.heap.size) := by
  obtain ⟨i0, hi0, hz0, hz1, hz2⟩ := info_parts hinfo
  obtain ⟨v', w', hrun, q1, q2, _, q4⟩ := run_append_own_at (P := P) w lo T ty t i0 z sz bytes hu hi0 hz0 hz1 hz2 hz hsz vr R.length R.flatten (row_of_ownR hown) ⟨b, 0, none⟩ 1 c r (by simp [hr])
    (fun j u hu' => by rw [Addr.add_lit, Nat.zero_add]; exact hc j u hu') h1 hlen2 hlen hlo
  refine ⟨v', w', hrun, ownR_of_row ?_ q1 (by simp) (by simp), q2, q4⟩
  intro x hx
  rw [List.mem_append, List.mem_singleton] at hx
  rcases hx with hx | rfl
  · exact hown.1 x hx
  · exact hr
theorem only_grown {w w' : World} {lo hi : Nat} {v : Value} (hg : w.grownBy w' v.ownBlock) (hb : ∀ k, v.ownBlock = some k → lo ≤ k ∧ k < hi) : OnlyIn lo hi w w' :=
  ⟨hg.os, hg.tape, hg.output, hg.size, fun k hk hn => hg.block k hk (fun e => hn (hb k e.symm))⟩

theorem wpList_append_r {ops : Array Oper} {rest : List Oper} {o : Oper} {a : Act} {Q : Exit → Act → World → Prop} (hgd : o.guard = none) (s x : Operand) (T : TypeId)
    (ho : o.op = .call { callee := .builtin .append, args := #[s, x], argTypes := #[T, T] }) (z : Value) (bytes : Nat) (hu : P.underlying T = some (.slice t))
    (hinfo : (P.info? t).map (fun i => (i.zero, i.size, i.bytes)) = some (some z, sz, bytes)) (hz : z.cells.size = sz) (hsz : 0 < sz)
    (hown : OwnR w lo hi t sz vr R) (b c : Nat) (hr : r.length = sz) (hc : ∀ j u, r[j]? = some u → w.cell? ⟨b, j, none⟩ = some u) (h1 : ∀ u ∈ r, u.oneCell' = true) (hlen : (R.length + 1) * bytes ≤ 140737488355328) (hlen2 : R.length + 1 ≤ maxLen) (hlo : lo ≤ w.heap.size)
    (hs : a.eval s = vr) (hx : a.eval x = .slice (some ⟨b, 0, none⟩) 1 c)
    (h : ∀ v' w', OwnR w' lo w'.heap.size t sz v' (R ++ [r]) → OnlyIn lo hi w w' → w.grownBy w' vr.ownBlock → (v'.ownBlock = vr.ownBlock ∨ v'.ownBlock = some w.heap.size) → wpList P ops Q rest (a.put o.dst v') w') : wpList P ops Q (o :: rest) a w := by
  obtain ⟨v', w', hrun, q1, q2, q3⟩ := run_append_r (P := P) T o.type z bytes hu hinfo hz hsz hown b c hr hc h1 hlen hlen2 hlo
  refine wpList_plain hgd fun K hK => ?_
  unfold Oper.wp execOp
  simp only [ho, resolve, invoke, builtin, Sem.run_bind, Sem.run_pure, Result.andThen_ok, List.map_toArray, List.map_cons, List.map_nil, hs, hx, hrun]
  exact hK _ _ (h v' w' q1 (only_grown q2 (fun k hk => ⟨(hown.blk hk).1, (hown.blk hk).2.1⟩)) q2 q3)

theorem wpListIn_append_r {F : Fence} {n : Nat} {ops : Array Oper} {rest : List Oper} {o : Oper} {a : Act} {Q : Exit → Act → World → Prop} (hgd : o.guard = none) (s x : Operand) (T : TypeId)
    (ho : o.op = .call { callee := .builtin .append, args := #[s, x], argTypes := #[T, T] }) (z : Value) (bytes : Nat) (hu : P.underlying T = some (.slice t))
    (hinfo : (P.info? t).map (fun i => (i.zero, i.size, i.bytes)) = some (some z, sz, bytes)) (hz : z.cells.size = sz) (hsz : 0 < sz)
    (hown : OwnR w lo hi t sz vr R) (b c : Nat) (hr : r.length = sz) (hc : ∀ j u, r[j]? = some u → w.cell? ⟨b, j, none⟩ = some u) (h1 : ∀ u ∈ r, u.oneCell' = true) (hlen : (R.length + 1) * bytes ≤ 140737488355328) (hlen2 : R.length + 1 ≤ maxLen) (hlo : lo ≤ w.heap.size)
    (hs : a.eval s = vr) (hx : a.eval x = .slice (some ⟨b, 0, none⟩) 1 c)
    (h : ∀ v' w', OwnR w' lo w'.heap.size t sz v' (R ++ [r]) → OnlyIn lo hi w w' → w.grownBy w' vr.ownBlock → (v'.ownBlock = vr.ownBlock ∨ v'.ownBlock = some w.heap.size) → wpListIn F n P ops Q rest (a.put o.dst v') w') : wpListIn F n P ops Q (o :: rest) a w := by
  obtain ⟨v', w', hrun, q1, q2, q3⟩ := run_append_r (P := P) T o.type z bytes hu hinfo hz hsz hown b c hr hc h1 hlen hlen2 hlo
  refine wpListIn_plain hgd fun K hK => ?_
  unfold Oper.wpIn
  refine ⟨?_, ?_⟩
  · simp [Oper.about, ho, resolve, Target.leads, Sem.run_pure]
  · rw [Oper.semAt_plain F _ _ (by rw [ho]; intro c hc'; cases hc')]
    simp [execOp, ho, resolve, invoke, builtin, hs, hx, hrun, Result.andThen]
    exact hK _ _ (h v' w' q1 (only_grown q2 (fun k hk => ⟨(hown.blk hk).1, (hown.blk hk).2.1⟩)) q2 q3)
end
end Go.Proofs.Ytmipkngikimjgaa.Seq

/-
  Words for answers in memory: a slice of answers, each with a slice of bytes of its own. No condition.
-/
import Derived.Test.YtmipkngikimjgaaPure17
import Derived.Test.YtmipkngikimjgaaModTo
namespace Go.Proofs.Ytmipkngikimjgaa.Ans
open Go.RowKit Go.Proofs.Ytmipkngikimjgaa.Mem Go.Proofs.Ytmipkngikimjgaa.Pure Go.Proofs.Ytmipkngikimjgaa.Help Go.Proofs.Ytmipkngikimjgaa.Seq Go.Proofs.Ytmipkngikimjgaa.Ints Go.Proofs.Ytmipkngikimjgaa.Nest
set_option linter.unusedVariables false

/-- The row r shows the answer. -/
def anS (w : World) (lo hi : Nat) (k : An) (r : List Value) : Prop :=
  ∃ y, r = [.int .i64 k.c, .int .i64 k.n, y] ∧ Rd w lo hi y k.d
theorem shAn : Shows 3 anS where
  touch := by
    rintro w w' lo hi lo' hi' k r ⟨y, rfl, h1⟩ ht hd
    exact ⟨y, rfl, h1.touch ht hd⟩
  more := by
    rintro w lo hi lo' hi' k r ⟨y, rfl, h1⟩ q1 q2
    exact ⟨y, rfl, h1.more q1 q2⟩
  all := by
    rintro w lo hi k r ⟨y, rfl, h1⟩
    exact ⟨y, rfl, Mods.rd_all h1⟩
  len := by
    rintro w lo hi k r ⟨y, rfl, h1⟩
    rfl
theorem an_cells {w : World} {lo hi n c i : Nat} {A : Option Addr} {K : List An} {k : An} (h : RdG 3 anS w lo hi (.slice A n c) K) (hk : K[i]? = some k) :
    ∃ b o y, A = some ⟨b, o, none⟩ ∧ b < w.heap.size ∧ w.cell? ⟨b, o + i * 3, none⟩ = some (.int .i64 k.c) ∧ w.cell? ⟨b, o + i * 3 + 1, none⟩ = some (.int .i64 k.n) ∧ w.cell? ⟨b, o + i * 3 + 2, none⟩ = some y ∧ Rd w lo hi y k.d := by
  obtain ⟨b, o, r, hA, hb, hc, y, rfl, hy⟩ := h.spot hk
  exact ⟨b, o, y, hA, hb, hc 0 _ (by omega) rfl, hc 1 _ (by omega) rfl, hc 2 _ (by omega) rfl, hy⟩

theorem own_kept {w w' : World} {lo hi : Nat} {v : Value} {L : List Int} (h : Own w lo hi v L) (hk : ∀ g, v.ownBlock = some g → w'.heap[g]? = w.heap[g]?) : Own w' lo hi v L := by
  rcases h with h | ⟨g, cap, cur, hv, h1, h2, h3, h4⟩
  · exact .inl h
  · refine .inr ⟨g, cap, cur, hv, h1, h2, ?_, h4⟩
    rw [hk g (by rw [hv]; rfl)]
    exact h3
theorem own_blk {w : World} {lo hi : Nat} {v : Value} {L : List Int} (h : Own w lo hi v L) {g : Nat} (hg : v.ownBlock = some g) : lo ≤ g ∧ g < hi ∧ g < w.heap.size := by
  rcases h with ⟨rfl, _⟩ | ⟨g', cap, cur, rfl, h1, h2, h3, _⟩
  · simp [Value.ownBlock] at hg
  · simp [Value.ownBlock] at hg
    subst hg
    exact ⟨h1, h2, (Array.getElem?_eq_some_iff.1 h3).1⟩
theorem own_nil (w : World) (lo hi : Nat) : Own w lo hi (.slice none 0 0) [] := .inl ⟨rfl, rfl⟩
/-- A row of bytes of one's own lies in one block. -/
theorem own_narrow {w : World} {lo hi : Nat} {v : Value} {L : List Int} (h : Own w lo hi v L) :
    ∃ a b, Own w a b v L ∧ ∀ q, ¬ (a ≤ q ∧ q < b) ∨ v.ownBlock = some q := by
  rcases h with ⟨rfl, rfl⟩ | ⟨g, cap, cur, rfl, h1, h2, h3, h4, h5, h6, h7⟩
  · exact ⟨0, 0, .inl ⟨rfl, rfl⟩, fun q => .inl (by omega)⟩
  · refine ⟨g, g + 1, .inr ⟨g, cap, cur, rfl, Nat.le_refl _, by omega, h3, h4, h5, h6, h7⟩, fun q => ?_⟩
    by_cases hq : q = g
    · right; rw [hq]; rfl
    · left; omega

/-- The rows of answers: V are the slices of their data. -/
def anR (K : List An) (V : List Value) : List (List Value) := List.zipWith (fun k x => [Value.int .i64 k.c, .int .i64 k.n, x]) K V
theorem anR_length {K : List An} {V : List Value} (h : V.length = K.length) : (anR K V).length = K.length := by simp [anR, h]
theorem anR_get {K : List An} {V : List Value} {i : Nat} {k : An} {x : Value} (hk : K[i]? = some k) (hx : V[i]? = some x) : (anR K V)[i]? = some [.int .i64 k.c, .int .i64 k.n, x] := by
  simp [anR, List.getElem?_zipWith, hk, hx]
theorem anR_set {K : List An} {V : List Value} (i : Nat) (k : An) (x : Value) : (anR K V).set i [.int .i64 k.c, .int .i64 k.n, x] = anR (K.set i k) (V.set i x) := by
  unfold anR
  apply List.ext_getElem?
  intro j
  rw [List.getElem?_set]
  by_cases hj : i = j
  · subst hj
    simp only [if_true, List.length_zipWith]
    rw [List.getElem?_zipWith]
    by_cases h1 : i < K.length
    · by_cases h2 : i < V.length
      · rw [if_pos (by omega), List.getElem?_set_self h1, List.getElem?_set_self h2]
      · rw [if_neg (by omega), List.getElem?_set_self h1, List.getElem?_eq_none (by rw [List.length_set]; omega)]
    · rw [if_neg (by omega), List.getElem?_eq_none (by rw [List.length_set]; omega)]
  · rw [if_neg hj, List.getElem?_zipWith, List.getElem?_zipWith, List.getElem?_set_ne hj, List.getElem?_set_ne hj]
theorem set_self {α : Type} {V : List α} {i : Nat} {x : α} (h : V[i]? = some x) : V.set i x = V := by
  apply List.ext_getElem?
  intro a
  rw [List.getElem?_set]
  split
  · subst i
    rw [if_pos (List.getElem?_eq_some_iff.1 h).1, h]
  · rfl

/-- The answers are the call's own, each slice of data in a block of its own. -/
def OwnA (w : World) (lo hi : Nat) (v : Value) (K : List An) : Prop :=
  ∃ V, V.length = K.length ∧ OwnR w lo hi 91 3 v (anR K V) ∧ (∀ (i : Nat) (k : An) (x : Value), K[i]? = some k → V[i]? = some x → Own w lo hi x k.d) ∧
    (∀ (i : Nat) (x : Value) (q : Nat), V[i]? = some x → x.ownBlock = some q → v.ownBlock ≠ some q) ∧
    ∀ (i j : Nat) (x y : Value) (q : Nat), i ≠ j → V[i]? = some x → V[j]? = some y → x.ownBlock = some q → y.ownBlock ≠ some q

section
variable {w w' : World} {lo hi lo' hi' : Nat} {v : Value} {K : List An}
theorem OwnA.touch (h : OwnA w lo hi v K) (ht : OnlyIn lo' hi' w w') (hd : hi ≤ lo' ∨ hi' ≤ lo) : OwnA w' lo hi v K := by
  obtain ⟨V, h1, h2, h3, h4⟩ := h
  exact ⟨V, h1, h2.touch ht hd, fun i k x hk hx => (h3 i k x hk hx).touch ht hd, h4⟩
theorem OwnA.below (h : OwnA w lo hi v K) (hb : Below w.heap.size w w') : OwnA w' lo hi v K := by
  obtain ⟨V, h1, h2, h3, h4⟩ := h
  exact ⟨V, h1, h2.below hb, fun i k x hk hx => (h3 i k x hk hx).below hb, h4⟩
theorem OwnA.more (h : OwnA w lo hi v K) (h1 : lo' ≤ lo) (h2 : hi ≤ hi') : OwnA w lo' hi' v K := by
  obtain ⟨V, q1, q2, q3, q4⟩ := h
  exact ⟨V, q1, q2.more h1 h2, fun i k x hk hx => (q3 i k x hk hx).more h1 h2, q4⟩
theorem OwnA.rd (h : OwnA w lo hi v K) : RdG 3 anS w lo hi v K := by
  obtain ⟨V, h1, h2, h3, h4⟩ := h
  refine ⟨anR K V, anR_length h1, h2.rd, fun i k r hk hr => ?_⟩
  have hi : i < K.length := (List.getElem?_eq_some_iff.1 hk).1
  have hx : V[i]? = some (V[i]'(by omega)) := List.getElem?_eq_getElem (by omega)
  rw [anR_get hk hx] at hr
  injection hr with hr
  exact ⟨_, hr.symm, (h3 i k _ hk hx).rd⟩
theorem ownA_nil (w : World) (lo : Nat) (h : lo ≤ w.heap.size) : OwnA (w.alloc (.cells #[] 91)) lo (w.alloc (.cells #[] 91)).heap.size (.slice (some ⟨w.heap.size, 0, none⟩) 0 0) [] :=
  ⟨[], rfl, ownR_made w lo h _ 3, fun i k x hk => by simp at hk, fun i x q hx => by simp at hx, fun i j x y q _ hx => by simp at hx⟩
end

theorem infoA : (Try.prog.info? 91).map (fun i => (i.zero, i.size, i.bytes)) = some (some (.agg #[.int .i64 0, .int .i64 0, .slice none 0 0]), 3, 40) := by kernel_rfl
def za : An := ⟨0, 0, []⟩
theorem ownA_zero {w : World} {lo hi n : Nat} {v : Value} (h : OwnR w lo hi 91 3 v (List.replicate n [Value.int .i64 0, .int .i64 0, .slice none 0 0])) : OwnA w lo hi v (List.replicate n za) := by
  have hr : ∀ {i : Nat} {x : Value}, (List.replicate n (Value.slice none 0 0))[i]? = some x → x = .slice none 0 0 := by
    intro i x hx
    rw [List.getElem?_replicate] at hx
    split at hx
    · injection hx with hx; exact hx.symm
    · cases hx
  refine ⟨List.replicate n (.slice none 0 0), by simp, ?_, ?_, ?_, ?_⟩
  · have e : anR (List.replicate n za) (List.replicate n (.slice none 0 0)) = List.replicate n [Value.int .i64 0, .int .i64 0, .slice none 0 0] := by
      simp [anR, za]
    rw [e]
    exact h
  · intro i k x hk hx
    rw [hr hx]
    rw [List.getElem?_replicate] at hk
    split at hk
    · injection hk with hk
      subst hk
      exact own_nil w lo hi
    · cases hk
  · intro i x q hx hq
    rw [hr hx] at hq
    simp [Value.ownBlock] at hq
  · intro i j x y q _ hx _ hq
    rw [hr hx] at hq
    simp [Value.ownBlock] at hq
theorem setRow_other_blk (g : Nat) (xs : List Value) : ∀ (w : World) (o q : Nat), q ≠ g → (setRowAt w g o xs).heap[q]? = w.heap[q]? := by
  induction xs with
  | nil => intro w o q hq; rfl
  | cons x xs ih =>
    intro w o q hq
    show (setRowAt (w.setCell ⟨g, o, none⟩ x) g (o + 1) xs).heap[q]? = _
    rw [ih _ _ _ hq]
    exact Below.heap_setCell w _ _ q hq

/-- One answer is laid into a row of one's own, its data a new row. -/
theorem OwnA.put {w : World} {lo hi hi2 g n c i : Nat} {K : List An} {k0 k : An} {x : Value} (h : OwnA w lo hi (.slice (some ⟨g, 0, none⟩) n c) K) (hle : lo ≤ hi) (hi2' : hi ≤ hi2) (hk : K[i]? = some k0) (hx : Own w hi hi2 x k.d) :
    OwnA (setRowAt w g (i * 3) [.int .i64 k.c, .int .i64 k.n, x]) lo hi2 (.slice (some ⟨g, 0, none⟩) n c) (K.set i k) ∧ OnlyIn lo hi w (setRowAt w g (i * 3) [.int .i64 k.c, .int .i64 k.n, x]) := by
  obtain ⟨V, h1, h2, h3, h4, h5⟩ := h
  have hik : i < K.length := (List.getElem?_eq_some_iff.1 hk).1
  have hV : V[i]? = some (V[i]'(by omega)) := List.getElem?_eq_getElem (by omega)
  have hput := OwnR.puts [Value.int .i64 k.c, .int .i64 k.n, x] (j := 0) h2 (anR_get hk hV) (by simp)
  have e1 : (anR K V).set i (List.take 0 [Value.int .i64 k0.c, .int .i64 k0.n, V[i]'(by omega)] ++ ([Value.int .i64 k.c, .int .i64 k.n, x] ++ List.drop (0 + [Value.int .i64 k.c, Value.int .i64 k.n, x].length) [Value.int .i64 k0.c, .int .i64 k0.n, V[i]'(by omega)])) = anR (K.set i k) (V.set i x) := by
    rw [← anR_set]
    rfl
  rw [e1, Nat.add_zero] at hput
  obtain ⟨p1, p2⟩ := hput
  have hg : lo ≤ g ∧ g < hi := by have := h2.blk (g := g) rfl; exact ⟨this.1, this.2.1⟩
  have hnew : ∀ q, x.ownBlock = some q → hi ≤ q := fun q hq => (own_blk hx hq).1
  have hold : ∀ (j : Nat) (y : Value) (q : Nat), V[j]? = some y → y.ownBlock = some q → q < hi := by
    intro j y q hy hq
    have hj : j < V.length := (List.getElem?_eq_some_iff.1 hy).1
    exact (own_blk (h3 j (K[j]'(by omega)) y (List.getElem?_eq_getElem (by omega)) hy) hq).2.1
  refine ⟨⟨V.set i x, by simp [h1], p1.more (Nat.le_refl _) hi2', ?_, ?_, ?_⟩, p2⟩
  · intro j k' y hk' hy
    rw [List.getElem?_set] at hk' hy
    by_cases hj : i = j
    · subst hj
      rw [if_pos rfl, if_pos hik] at hk'
      rw [if_pos rfl, if_pos (by omega)] at hy
      injection hk' with hk'
      injection hy with hy
      subst hk' hy
      exact (hx.touch p2 (.inr (Nat.le_refl _))).more hle (Nat.le_refl _)
    · rw [if_neg hj] at hk' hy
      refine (own_kept (h3 j k' y hk' hy) (fun q hq => setRow_other_blk g _ w _ q ?_)).more (Nat.le_refl _) hi2'
      intro e
      exact h4 j y q hy hq (by rw [e]; rfl)
  · intro j y q hy hq
    rw [List.getElem?_set] at hy
    split at hy
    · rw [if_pos (by omega)] at hy
      injection hy with hy
      subst hy
      have := hnew q hq
      intro e
      simp [Value.ownBlock] at e
      omega
    · exact h4 j y q hy hq
  · intro a b y z q hab hy hz hq
    rw [List.getElem?_set] at hy hz
    split at hy
    · rw [if_pos (by omega)] at hy
      injection hy with hy
      subst hy
      split at hz
      · omega
      · intro e
        have := hold b z q hz e
        have := hnew q hq
        omega
    · split at hz
      · rw [if_pos (by omega)] at hz
        injection hz with hz
        subst hz
        intro e
        have := hold a y q hy hq
        have := hnew q e
        omega
      · exact h5 a b y z q hab hy hz hq

/-- One number of an answer is written. -/
theorem flag {w : World} {lo hi g n c i j q : Nat} {K : List An} {k0 k : An} {u : Value} (h : OwnA w lo hi (.slice (some ⟨g, 0, none⟩) n c) K) (hk : K[i]? = some k0) (hj : j < 3) (hf : k.d = k0.d) (hv : ∀ x : Value, [Value.int .i64 k0.c, .int .i64 k0.n, x].set j u = [Value.int .i64 k.c, .int .i64 k.n, x]) (hq : q = i * 3 + j) :
    OwnA (w.setCell ⟨g, q, none⟩ u) lo hi (.slice (some ⟨g, 0, none⟩) n c) (K.set i k) ∧ OnlyIn lo hi w (w.setCell ⟨g, q, none⟩ u) := by
  subst hq
  obtain ⟨V, h1, h2, h3, h4, h5⟩ := h
  have hik : i < K.length := (List.getElem?_eq_some_iff.1 hk).1
  have hV : V[i]? = some (V[i]'(by omega)) := List.getElem?_eq_getElem (by omega)
  obtain ⟨g', hA, _, _, _, hput⟩ := h2.put (anR_get hk hV)
  injection hA with hA
  injection hA with hA
  subst hA
  obtain ⟨_, _, hs⟩ := hput j hj
  obtain ⟨p1, p2⟩ := hs u
  rw [hv, anR_set, set_self hV] at p1
  refine ⟨⟨V, by simp [h1], p1, fun a k' x hk' hx => ?_, h4, h5⟩, p2⟩
  have hkept : ∀ f', Own w lo hi x f' → Own (w.setCell ⟨g, i * 3 + j, none⟩ u) lo hi x f' := fun f' ho =>
    own_kept ho (fun q hq => Below.heap_setCell w _ _ q (by
      show q ≠ g
      intro e
      exact h4 a x q hx hq (by rw [e]; rfl)))
  rw [List.getElem?_set] at hk'
  by_cases hja : i = a
  · subst hja
    rw [if_pos rfl, if_pos hik] at hk'
    injection hk' with hk'
    rw [← hk', hf]
    exact hkept _ (h3 i k0 x hk hx)
  · rw [if_neg hja] at hk'
    exact hkept _ (h3 a k' x hk' hx)

/-- One answer of one's own: its cells, its data, and that another content of these lies in the row. -/
theorem own_spot {w : World} {lo hi n c i : Nat} {A : Option Addr} {K : List An} {k : An} (h : OwnA w lo hi (.slice A n c) K) (hk : K[i]? = some k) :
    ∃ g x, A = some ⟨g, 0, none⟩ ∧ lo ≤ g ∧ g < hi ∧ g < w.heap.size ∧ (w.cell? ⟨g, i * 3, none⟩ = some (.int .i64 k.c) ∧ w.cell? ⟨g, i * 3 + 1, none⟩ = some (.int .i64 k.n) ∧ w.cell? ⟨g, i * 3 + 2, none⟩ = some x) ∧ (w.frozen? ⟨g, i * 3, none⟩ = false ∧ w.frozen? ⟨g, i * 3 + 1, none⟩ = false ∧ w.frozen? ⟨g, i * 3 + 2, none⟩ = false) ∧
      Own w lo hi x k.d ∧ ∀ (w' : World) (L : List Int) (a b : Nat), Own w' a b x L → OnlyIn a b w w' → (∀ q, ¬ (a ≤ q ∧ q < b) ∨ x.ownBlock = some q) → OwnA w' lo hi (.slice A n c) (K.set i ⟨k.c, k.n, L⟩) ∧ OnlyIn lo hi w w' := by
  obtain ⟨V, h1, h2, h3, h4, h5⟩ := h
  have hik : i < K.length := (List.getElem?_eq_some_iff.1 hk).1
  have hV : V[i]? = some (V[i]'(by omega)) := List.getElem?_eq_getElem (by omega)
  obtain ⟨g, hA, g1, g2, g3, hput⟩ := h2.put (anR_get hk hV)
  subst hA
  obtain ⟨f0, ⟨u0, a0, d0⟩, _⟩ := hput 0 (by omega)
  obtain ⟨f1, ⟨u1, a1, d1⟩, _⟩ := hput 1 (by omega)
  obtain ⟨f2, ⟨u2, a2, d2⟩, _⟩ := hput 2 (by omega)
  rw [Nat.add_zero] at f0 d0
  simp at a0 a1 a2
  subst a0 a1 a2
  refine ⟨g, V[i]'(by omega), rfl, g1, g2, g3, ⟨d0, d1, d2⟩, ⟨f0, f1, f2⟩, h3 i k _ hk hV, fun w' L a b ho ht hab => ?_⟩
  have hblk : ∀ q, q < w.heap.size → (V[i]'(by omega)).ownBlock ≠ some q → w'.heap[q]? = w.heap[q]? := fun q hq hne => ht.block q hq (by
    rcases hab q with h9 | h9
    · exact h9
    · exact absurd h9 hne)
  have hx : ∀ q, (V[i]'(by omega)).ownBlock = some q → lo ≤ q ∧ q < hi := fun q hq => ⟨(own_blk (h3 i k _ hk hV) hq).1, (own_blk (h3 i k _ hk hV) hq).2.1⟩
  refine ⟨⟨V, by simp [h1], ?_, fun j k' x hk' hx' => ?_, h4, h5⟩, ⟨ht.os, ht.tape, ht.output, ht.size, fun q hq hn => hblk q hq (fun e => hn (hx q e))⟩⟩
  · have e1 : anR (K.set i ⟨k.c, k.n, L⟩) V = anR K V := by
      have e3 := anR_set (K := K) (V := V) i ⟨k.c, k.n, L⟩ (V[i]'(by omega))
      rw [set_self hV] at e3
      rw [← e3]
      have e4 := anR_get (k := k) hk hV
      exact set_self e4
    rw [e1]
    refine h2.kept (fun q hq => hblk q (h2.blk hq).2.2.1 (fun e => ?_))
    exact h4 i _ q hV e hq
  · rw [List.getElem?_set] at hk'
    by_cases hj : i = j
    · subst hj
      rw [if_pos rfl, if_pos hik] at hk'
      injection hk' with hk'
      rw [hV] at hx'
      injection hx' with hx'
      rw [← hk', ← hx']
      rcases ho with qq | ⟨g', cap, cur, e, q1, q2, q3⟩
      · exact .inl qq
      · have hxg := hx g' (by rw [e]; rfl)
        exact .inr ⟨g', cap, cur, e, hxg.1, hxg.2, q3⟩
    · rw [if_neg hj] at hk'
      refine own_kept (h3 j k' x hk' hx') (fun q hq => hblk q (own_blk (h3 j k' x hk' hx') hq).2.2 (fun e => ?_))
      exact h5 i j _ x q hj hV hx' e hq

/-- One answer more behind a row of one's own, that may have moved. -/
theorem OwnA.app {w w' : World} {lo hi hi2 : Nat} {v v' : Value} {K : List An} {k : An} {x : Value} {V : List Value} (hV : V.length = K.length) (h3 : ∀ (i : Nat) (k : An) (x : Value), K[i]? = some k → V[i]? = some x → Own w lo hi x k.d) (h4 : ∀ (i : Nat) (x : Value) (q : Nat), V[i]? = some x → x.ownBlock = some q → v.ownBlock ≠ some q)
    (h5 : ∀ (i j : Nat) (x y : Value) (q : Nat), i ≠ j → V[i]? = some x → V[j]? = some y → x.ownBlock = some q → y.ownBlock ≠ some q)
    (hlo : lo ≤ hi) (hi2' : hi ≤ hi2) (hw2 : hi2 ≤ w.heap.size) (hvb : ∀ q, v.ownBlock = some q → q < hi) (hx : Own w hi hi2 x k.d) (ho : OwnR w' lo w'.heap.size 91 3 v' (anR K V ++ [[.int .i64 k.c, .int .i64 k.n, x]])) (hg : w.grownBy w' v.ownBlock) (hb : v'.ownBlock = v.ownBlock ∨ v'.ownBlock = some w.heap.size) :
    OwnA w' lo w'.heap.size v' (K ++ [k]) := by
  have hVx : ∀ (i : Nat) (y : Value), (V ++ [x])[i]? = some y → (i < V.length ∧ V[i]? = some y) ∨ (i = V.length ∧ y = x) := by
    intro i y hy
    by_cases h : i < V.length
    · rw [List.getElem?_append_left h] at hy
      exact .inl ⟨h, hy⟩
    · rw [List.getElem?_append_right (by omega)] at hy
      have : i - V.length = 0 := by
        have := (List.getElem?_eq_some_iff.1 hy).1
        simp at this
        omega
      rw [this] at hy
      simp at hy
      exact .inr ⟨by omega, hy.symm⟩
  have hold : ∀ (j : Nat) (y : Value) (q : Nat), V[j]? = some y → y.ownBlock = some q → q < hi := by
    intro j y q hy hq
    have hj : j < V.length := (List.getElem?_eq_some_iff.1 hy).1
    exact (own_blk (h3 j (K[j]'(by omega)) y (List.getElem?_eq_getElem (by omega)) hy) hq).2.1
  have hnew : ∀ q, x.ownBlock = some q → hi ≤ q ∧ q < hi2 := fun q hq => ⟨(own_blk hx hq).1, (own_blk hx hq).2.1⟩
  have hkb : ∀ q, q < w.heap.size → v.ownBlock ≠ some q → w'.heap[q]? = w.heap[q]? := fun q hq hne => hg.block q hq (fun e => hne e.symm)
  have hsz := hg.size
  refine ⟨V ++ [x], by simp [hV], ?_, fun i k' y hk' hy => ?_, fun i y q hy hq => ?_, fun i j y z q hij hy hz hq => ?_⟩
  · have e : anR (K ++ [k]) (V ++ [x]) = anR K V ++ [[.int .i64 k.c, .int .i64 k.n, x]] := by
      unfold anR
      rw [List.zipWith_append (by rw [hV])]
      rfl
    rw [e]
    exact ho
  · rcases hVx i y hy with ⟨h1, h2⟩ | ⟨rfl, rfl⟩
    · rw [List.getElem?_append_left (by omega)] at hk'
      refine (own_kept (h3 i k' y hk' h2) (fun q hq => hkb q ?_ (fun e => h4 i y q h2 hq e))).more (Nat.le_refl _) (by omega)
      have := hold i y q h2 hq
      omega
    · rw [List.getElem?_append_right (by omega), hV, Nat.sub_self] at hk'
      simp at hk'
      subst hk'
      refine (own_kept hx (fun q hq => hkb q (by have := hnew q hq; omega) (fun e => ?_))).more hlo (by omega)
      have h9 := hnew q hq
      have := hvb q e
      omega
  · have hy' : q < w.heap.size ∧ v.ownBlock ≠ some q := by
      rcases hVx i y hy with ⟨h1, h2⟩ | ⟨rfl, rfl⟩
      · exact ⟨by have := hold i y q h2 hq; omega, h4 i y q h2 hq⟩
      · have h9 := hnew q hq
        exact ⟨by omega, fun e => by have := hvb q e; omega⟩
    rcases hb with e | e
    · rw [e]; exact hy'.2
    · rw [e]
      intro e2
      injection e2 with e2
      omega
  · rcases hVx i y hy with ⟨h1, h2⟩ | ⟨rfl, rfl⟩
    · rcases hVx j z hz with ⟨h6, h7⟩ | ⟨rfl, rfl⟩
      · exact h5 i j y z q hij h2 h7 hq
      · intro e
        have := hnew q e
        have := hold i y q h2 hq
        omega
    · rcases hVx j z hz with ⟨h6, h7⟩ | ⟨rfl, rfl⟩
      · intro e
        have := hnew q hq
        have := hold j z q h7 e
        omega
      · omega
end Go.Proofs.Ytmipkngikimjgaa.Ans

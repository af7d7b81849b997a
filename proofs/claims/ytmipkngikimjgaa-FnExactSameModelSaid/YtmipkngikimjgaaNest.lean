/-
  Words for rows of structs in memory that hold slices of their own, whatever these are; generic in what a row shows. No condition.
-/
import Derived.Test.YtmipkngikimjgaaInts
namespace Go.Proofs.Ytmipkngikimjgaa.Nest
open Go.RowKit Go.Proofs.Ytmipkngikimjgaa.Mem Go.Proofs.Ytmipkngikimjgaa.Pure Go.Proofs.Ytmipkngikimjgaa.Help Go.Proofs.Ytmipkngikimjgaa.Seq Go.Proofs.Ytmipkngikimjgaa.Ints
set_option linter.unusedVariables false

/-- What is shown stays shown: S w lo hi k r: the row r shows k, all that it leads to lies in the blocks from lo to below hi. -/
structure Shows {α : Type} (sz : Nat) (S : World → Nat → Nat → α → List Value → Prop) : Prop where
  touch : ∀ {w w' : World} {lo hi lo' hi' : Nat} {k : α} {r : List Value}, S w lo hi k r → OnlyIn lo' hi' w w' → (hi ≤ lo' ∨ hi' ≤ lo) → S w' lo hi k r
  more : ∀ {w : World} {lo hi lo' hi' : Nat} {k : α} {r : List Value}, S w lo hi k r → lo' ≤ lo → hi ≤ hi' → S w lo' hi' k r
  all : ∀ {w : World} {lo hi : Nat} {k : α} {r : List Value}, S w lo hi k r → S w 0 w.heap.size k r
  len : ∀ {w : World} {lo hi : Nat} {k : α} {r : List Value}, S w lo hi k r → r.length = sz

/-- The slice v reads as the list K, each row showing its element. -/
def RdG {α : Type} (sz : Nat) (S : World → Nat → Nat → α → List Value → Prop) (w : World) (lo hi : Nat) (v : Value) (K : List α) : Prop :=
  ∃ R : List (List Value), R.length = K.length ∧ RdR w lo hi sz v R ∧ ∀ (i : Nat) (k : α) (r : List Value), K[i]? = some k → R[i]? = some r → S w lo hi k r

section
variable {α : Type} {sz : Nat} {S : World → Nat → Nat → α → List Value → Prop} {w w' : World} {lo hi lo' hi' : Nat} {v : Value} {K : List α}
theorem RdG.touch (hS : Shows sz S) (h : RdG sz S w lo hi v K) (ht : OnlyIn lo' hi' w w') (hd : hi ≤ lo' ∨ hi' ≤ lo) : RdG sz S w' lo hi v K := by
  obtain ⟨R, h1, h2, h3⟩ := h
  exact ⟨R, h1, h2.touch ht hd, fun i k r hk hr => hS.touch (h3 i k r hk hr) ht hd⟩
theorem RdG.below (hS : Shows sz S) (h : RdG sz S w lo hi v K) (hb : Below w.heap.size w w') : RdG sz S w' lo hi v K :=
  h.touch hS (lo' := hi) (hi' := hi) (OnlyIn.of_below hb) (.inl (Nat.le_refl _))
theorem RdG.more (hS : Shows sz S) (h : RdG sz S w lo hi v K) (h1 : lo' ≤ lo) (h2 : hi ≤ hi') : RdG sz S w lo' hi' v K := by
  obtain ⟨R, q1, q2, q3⟩ := h
  exact ⟨R, q1, q2.more h1 h2, fun i k r hk hr => hS.more (q3 i k r hk hr) h1 h2⟩
theorem RdG.all (hS : Shows sz S) (h : RdG sz S w lo hi v K) : RdG sz S w 0 w.heap.size v K := by
  obtain ⟨R, q1, q2, q3⟩ := h
  exact ⟨R, q1, Ints.rdR_all q2, fun i k r hk hr => hS.all (q3 i k r hk hr)⟩
theorem RdG.form (h : RdG sz S w lo hi v K) : ∃ A c, v = .slice A K.length c ∧ K.length ≤ c ∧ c ≤ maxLen := by
  obtain ⟨R, h1, ⟨A, c, hv, hc, hm, _⟩, _⟩ := h
  rw [h1] at hv hc
  exact ⟨A, c, hv, hc, hm⟩
/-- One element: its row, the row's cells, and what it shows. -/
theorem RdG.spot {A : Option Addr} {n c i : Nat} {k : α} (h : RdG sz S w lo hi (.slice A n c) K) (hk : K[i]? = some k) :
    ∃ b o r, A = some ⟨b, o, none⟩ ∧ b < w.heap.size ∧ (∀ j u, j < sz → r[j]? = some u → w.cell? ⟨b, o + i * sz + j, none⟩ = some u) ∧ S w lo hi k r := by
  obtain ⟨R, h1, h2, h3⟩ := h
  have hi : i < K.length := (List.getElem?_eq_some_iff.1 hk).1
  have hx : R[i]? = some (R[i]'(by omega)) := List.getElem?_eq_getElem (by omega)
  obtain ⟨b, o, hA, _, _, hb, hc⟩ := h2.spot hx
  exact ⟨b, o, _, hA, hb, hc, h3 i k _ hk hx⟩
theorem rdG_nil : RdG sz S w lo hi (.slice none 0 0) ([] : List α) :=
  ⟨[], rfl, ⟨none, 0, rfl, Nat.le_refl _, Nat.zero_le _, fun i r hr => by simp at hr⟩, fun i k r hk => by simp at hk⟩

/-- A row of one's own at the block g, of n elements, of which the first m are laid. -/
def Fill (t : TypeId) (sz : Nat) (S : World → Nat → Nat → α → List Value → Prop) (g n : Nat) (K : List α) (m : Nat) (w : World) : Prop :=
  ∃ R : List (List Value), R.length = n ∧ OwnR w g (g + 1) t sz (.slice (some ⟨g, 0, none⟩) n n) R ∧
    ∀ (i : Nat) (k : α) (r : List Value), i < m → K[i]? = some k → R[i]? = some r → S w (g + 1) w.heap.size k r

variable {t : TypeId} {g n m : Nat}
theorem Fill.below (hS : Shows sz S) (h : Fill t sz S g n K m w) (hb : Below w.heap.size w w') : Fill t sz S g n K m w' := by
  obtain ⟨R, h1, h2, h3⟩ := h
  refine ⟨R, h1, h2.below hb, fun i k r hi hk hr => ?_⟩
  exact hS.more (hS.touch (lo' := w.heap.size) (hi' := w.heap.size) (h3 i k r hi hk hr) (OnlyIn.of_below hb) (.inl (Nat.le_refl _))) (Nat.le_refl _) hb.size
theorem fill_new {z : List Value} (h : OwnR w g w.heap.size t sz (.slice (some ⟨g, 0, none⟩) n n) (List.replicate n z)) : Fill t sz S g n K 0 w := by
  refine ⟨List.replicate n z, by simp, ?_, fun i k r hi => by omega⟩
  obtain ⟨h0, hh⟩ := h
  refine ⟨h0, ?_⟩
  rcases hh with ⟨hv, _⟩ | ⟨g', cap, cur, hv, h1, h2, h3⟩
  · cases hv
  · injection hv with hA hn hc
    injection hA with hA
    injection hA with hA
    subst hA
    exact .inr ⟨g, cap, cur, by rw [← hc, ← hn], Nat.le_refl _, by omega, h3⟩

/-- One element more is laid: a whole row is stored. -/
theorem Fill.put (hS : Shows sz S) {k : α} {r : List Value} (h : Fill t sz S g n K m w) (hk : K[m]? = some k) (hn : n = K.length) (hg : g < w.heap.size) (hr : S w (g + 1) w.heap.size k r) :
    Fill t sz S g n K (m + 1) (setRowAt w g (m * sz) r) ∧ OnlyIn g (g + 1) w (setRowAt w g (m * sz) r) := by
  obtain ⟨R, h1, h2, h3⟩ := h
  have hm : m < K.length := (List.getElem?_eq_some_iff.1 hk).1
  have hR : R[m]? = some (R[m]'(by omega)) := List.getElem?_eq_getElem (by omega)
  have hl := hS.len hr
  have hl0 : (R[m]'(by omega)).length = sz := h2.1 _ (List.mem_of_getElem? hR)
  obtain ⟨p1, p2⟩ := OwnR.puts r (j := 0) h2 hR (by omega)
  rw [Nat.add_zero, List.take_zero, List.nil_append, Nat.zero_add, List.drop_eq_nil_of_le (by omega), List.append_nil] at p1
  rw [Nat.add_zero] at p2
  refine ⟨⟨R.set m r, by simp [h1], p1, fun i k' r' hi hk' hr' => ?_⟩, p2⟩
  rw [List.getElem?_set] at hr'
  by_cases hj : m = i
  · subst hj
    rw [if_pos rfl, if_pos (by omega)] at hr'
    rw [hk] at hk'
    injection hk' with hk'
    injection hr' with hr'
    subst hk' hr'
    exact hS.more (hS.touch hr p2 (.inr (Nat.le_refl _))) (Nat.le_refl _) p2.size
  · rw [if_neg hj] at hr'
    exact hS.more (hS.touch (h3 i k' r' (by omega) hk' hr') p2 (.inr (Nat.le_refl _))) (Nat.le_refl _) p2.size
/-- The cells of the next one, ahead of its store. -/
theorem Fill.cells (h : Fill t sz S g n K m w) (hm : m < n) : ∀ j, j < sz → w.frozen? ⟨g, m * sz + j, none⟩ = false ∧ ∃ u, w.cell? ⟨g, m * sz + j, none⟩ = some u := by
  obtain ⟨R, h1, h2, h3⟩ := h
  have hR : R[m]? = some (R[m]'(by omega)) := List.getElem?_eq_getElem (by omega)
  obtain ⟨g', hA, _, _, _, hput⟩ := h2.put hR
  injection hA with hA
  injection hA with hA
  subst hA
  intro j hj
  obtain ⟨f, ⟨u, _, hc⟩, _⟩ := hput j hj
  exact ⟨f, u, hc⟩
theorem Fill.done (hS : Shows sz S) (h : Fill t sz S g n K m w) (hn : n = K.length) (hm : m = n) (hg : g < w.heap.size) : RdG sz S w g w.heap.size (.slice (some ⟨g, 0, none⟩) n n) K := by
  obtain ⟨R, h1, h2, h3⟩ := h
  refine ⟨R, by omega, h2.rd.more (Nat.le_refl _) hg, fun i k r hk hr => ?_⟩
  have : i < K.length := (List.getElem?_eq_some_iff.1 hk).1
  exact hS.more (h3 i k r (by omega) hk hr) (by omega) (Nat.le_refl _)

/-- A new list comes back. -/
def RetG (sz : Nat) (S : World → Nat → Nat → α → List Value → Prop) (w : World) (K : List α) (e : Ending) (w' : World) : Prop :=
  ∃ v, e = .returned v ∧ RdG sz S w' w.heap.size w'.heap.size v K ∧ Below w.heap.size w w'

/-- Two lists that read alike. -/
structure TwoG (sz : Nat) (S : World → Nat → Nat → α → List Value → Prop) (w0 : World) (va vb : Value) (K : List α) (wr : World) : Prop where
  a : RdG sz S wr 0 wr.heap.size va K
  b : RdG sz S wr 0 wr.heap.size vb K
  below : Below w0.heap.size w0 wr
theorem TwoG.step (hS : Shows sz S) {w0 wr w2 : World} {va vb : Value} (h : Hid (TwoG sz S w0 va vb K wr)) (hb : Below wr.heap.size wr w2) : Hid (TwoG sz S w0 va vb K w2) :=
  Lib.hid ⟨(h.out.a.below hS hb).all hS, (h.out.b.below hS hb).all hS, below_then h.out.below hb (Nat.le_refl _)⟩

/-- How much the first k have together, and all. -/
def pre (c : α → Nat) (K : List α) (k : Nat) : Nat := ((K.take k).map c).sum
def tot (c : α → Nat) (K : List α) : Nat := pre c K K.length
theorem pre_zero (c : α → Nat) (K : List α) : pre c K 0 = 0 := by simp [pre]
theorem pre_succ {c : α → Nat} {k : Nat} {s : α} (h : K[k]? = some s) : pre c K (k + 1) = pre c K k + c s := by
  have hk : k < K.length := (List.getElem?_eq_some_iff.1 h).1
  have he : K[k] = s := (List.getElem?_eq_some_iff.1 h).2
  unfold pre
  rw [List.take_succ_eq_append_getElem hk, he]
  simp
theorem pre_le (c : α → Nat) (K : List α) (k : Nat) : pre c K k ≤ tot c K := by
  have h : ∀ d, pre c K (K.length - d) ≤ tot c K := by
    intro d
    induction d with
    | zero => exact Nat.le_refl _
    | succ d ih =>
      by_cases hq : d < K.length
      · have hk : K.length - (d + 1) < K.length := by omega
        have := pre_succ (c := c) (K := K) (List.getElem?_eq_getElem hk)
        rw [show K.length - (d + 1) + 1 = K.length - d by omega] at this
        omega
      · rw [show K.length - (d + 1) = K.length - d by omega]
        exact ih
  by_cases hk : k ≤ K.length
  · have := h (K.length - k)
    rwa [show K.length - (K.length - k) = k by omega] at this
  · unfold tot pre
    rw [List.take_of_length_le (by omega), List.take_of_length_le (Nat.le_refl _)]
    exact Nat.le_refl _
theorem one_le_tot {c : α → Nat} {k : α} (h : k ∈ K) : c k ≤ tot c K := by
  obtain ⟨i, hi, rfl⟩ := List.getElem_of_mem h
  have h1 := pre_succ (c := c) (K := K) (List.getElem?_eq_getElem hi)
  have h2 := pre_le c K (i + 1)
  omega
end
end Go.Proofs.Ytmipkngikimjgaa.Nest

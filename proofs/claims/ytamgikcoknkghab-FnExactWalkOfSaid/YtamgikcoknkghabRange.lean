/-
  A range over an iterator that keeps its state in a cell of its own, at the wide fence: a law of this seat's. The iterator's block g is foreign to the caller: the caller's invariant abides whatever turns in g alone. No condition.
-/
import Derived.Test.YtamgikcoknkghabMem
import Derived.RangeFuncNested
import Derived.RangeFuncLeaves
import Derived.RangeFuncCalls
import Derived.Shelf.Abstract
import Derived.OwnWalkIn
import Derived.TacticsInMore
import Derived.LoopNIn
import Derived.LoopIn
namespace Go.Proofs.Ytamgikcoknkghab.Range
open Go.RowKit Go.Shelf Go.Proofs.Ytamgikcoknkghab.Mem
set_option linter.unusedVariables false

theorem only_put {g l : Nat} {A : World} (o : Obj) (k : Nat) (h : k ≠ l) : (A.putObj l o).heap[k]? = A.heap[k]? := World.putObj_heap_other h
theorem size_put {l : Nat} {A : World} (o : Obj) : (A.putObj l o).heap.size = A.heap.size := by simp [World.putObj]

/-- gf, called with yield, hands all of xs to it, one after the other; it writes into one block of its own (g) alone; of a round it asks that the blocks K, and g, stay. -/
def Iter {α : Type} (n : Nat) (P : Program) (gf : Nat) (lb : Array Value) (encs : α → Array Value) (K : Nat → Prop) (xs : List α) (w : World) : Prop :=
  ∀ (l : Nat) (J : Nat → List α → World → Prop) (W : World), Below w.heap.size w W →
    (∀ g pre A B, W.heap.size ≤ g → J g pre A → OnlyIn g (g + 1) A B → J g pre B) →
    (∀ g pre x A, W.heap.size ≤ g → (∃ cs t, A.heap[g]? = some (.cells cs t (0, 0))) → pre ++ [x] <+: xs → J g pre A →
      YieldAt Fence.wide (n - 1) P l (encs x) A fun e B => e = .returned (.bool true) ∧ J g (pre ++ [x]) B ∧ A.heap.size ≤ B.heap.size ∧ ∀ k, K k ∨ k = g → B.heap[k]? = A.heap[k]?) →
    (∀ g, W.heap.size ≤ g → J g [] W) →
    CallsIn Fence.wide n P gf (#[.func (.yield l) #[] #[]] ++ lb) W fun e W' => (∃ v, e = .returned v) ∧ ∃ g, W.heap.size ≤ g ∧ J g xs W'

/-- A round's body falls off its end. -/
def fellOff (R : World → Prop) : Exit → Act → World → Prop
  | .normal, _, W' => R W'
  | _, _, _ => False

section
variable {α : Type} {n : Nat} {P : Program} {g : Operand} {ps : Array Tmp} {assign body : Code} {Q : Exit → Act → World → Prop} {a : Act} {w : World} {gf : Nat} {lb : Array Value} {encs : α → Array Value} {K : Nat → Prop} {xs : List α}

theorem wpIn_range (h1 : 1 ≤ n) (hg : a.eval g = .func (.func gf) #[] lb) (eg : ∀ args w, (callFunc gf args).run P w = .ok (.enter gf args) w)
    (hit : Iter (n - 1) P gf lb encs K xs w) (hps : ∀ x, (encs x).size = ps.size) (hK : ∀ k, K k → k < w.heap.size)
    (I : Nat → List α → World → Prop)
    (hI : ∀ b pre A B, w.heap.size ≤ b → I b pre A → OnlyIn b (b + 1) A B → I b pre B)
    (hIo : ∀ b pre A l o (r : Obj), w.heap.size ≤ l → I b pre A → A.heap[l]? = some r → r.isCells = false → I b pre (A.putObj l o))
    (h0 : ∀ b, w.heap.size ≤ b → I b [] w)
    (Ax : Nat → List α → α → Act → World → Prop) (hAx : ∀ b pre x a' A l o (r : Obj), w.heap.size ≤ l → Ax b pre x a' A → A.heap[l]? = some r → r.isCells = false → Ax b pre x a' (A.putObj l o))
    (hassign : ∀ l b pre x W (Kc : Act → World → Prop), w.heap.size ≤ b → b < W.heap.size → pre ++ [x] <+: xs → I b pre W → (∀ a' W', Below W.heap.size W W' → Ax b pre x a' W' → Kc a' W') →
      assign.wpIn (Fence.wide.inRound l) (n - 1 - 1) P (Exit.then Kc (fun _ _ _ => False)) { tmps := (ps.zip (encs x)).foldl (fun t (p, v) => t.setIfInBounds p v) a.tmps, defers := [] } W)
    (hbody : ∀ l b pre x a' W, w.heap.size ≤ b → (∃ cs t, W.heap[b]? = some (.cells cs t (0, 0))) → pre ++ [x] <+: xs → Ax b pre x a' W →
      body.wpIn (Fence.wide.inRound l) (n - 1 - 1) P (fellOff fun W' => I b (pre ++ [x]) W' ∧ W.heap.size ≤ W'.heap.size ∧ (∀ k : Nat, K k ∨ k = b → W'.heap[k]? = W.heap[k]?) ∧ ∀ (k : Nat) (o : Obj), W.heap[k]? = some o → o.isCells = false → W'.heap[k]? = some o) a' W)
    (hdone : ∀ D b W, w.heap.size ≤ D → w.heap.size ≤ b → I b xs W → W.heap[D]? = some (.deferred (some [])) → Q .normal { a with defers := { target := .collected D, args := #[] } :: a.defers } W) :
    (Code.rangeFunc g ps assign body).wpIn Fence.wide n P Q a w := by
  refine wpIn_rangeFunc fun fn hfn => ?_
  obtain ⟨D, hD⟩ : ∃ D, D = w.heap.size := ⟨_, rfl⟩
  let rec_ (st : LoopState) (pe : Option Code) : Loop := { state := st, pending := pe, fn := fn, tmps := a.tmps, params := ps, assign := assign, body := body, defers := w.heap.size }
  have hround : Fence.wide.round = none := rfl
  rw [hround]
  obtain ⟨V, hV⟩ : ∃ V, V = (w.alloc (.deferred (some []))).alloc (.loop (rec_ .ready none)) := ⟨_, rfl⟩
  have hVs : V.heap.size = w.heap.size + 2 := by rw [hV]; simp
  have hVD : V.heap[w.heap.size]? = some (.deferred (some [])) := by
    rw [hV, Below.heap_alloc _ _ _ (by simp)]
    exact World.alloc_heap_new w _
  have hVl : V.heap[w.heap.size + 1]? = some (.loop (rec_ .ready none)) := by
    have := World.alloc_heap_new (w.alloc (.deferred (some []))) (.loop (rec_ .ready none))
    rw [World.size_alloc] at this
    rw [hV]
    exact this
  have hwV : Below w.heap.size w V := by
    rw [hV]
    exact ((Below.refl _ w).alloc (Nat.le_refl _) _).alloc (by simp) _
  refine ⟨w.heap.size + 1, [{ target := .collected w.heap.size, args := #[] }], V, { target := .fn (.func gf) lb, args := #[.func (.yield (w.heap.size + 1)) #[] #[]] }, V, gf,
    #[.func (.yield (w.heap.size + 1)) #[] #[]] ++ lb, V, ?_, ?_, ?_, ?_, ?_, ?_⟩
  · rw [hV]
    exact run_enterLoop_outer _ _ _ _ _
  · simp only [resolve, hg]
    simp [go_sem]
  · intro f' _
    exact trivial
  · simp [invoke, go_sem, eg]
  · exact fun _ => h1
  · have main := hit (w.heap.size + 1)
      (fun b pre A => I b pre A ∧ A.heap[w.heap.size + 1]? = some (.loop (rec_ .ready none)) ∧ A.heap[w.heap.size]? = some (.deferred (some []))) V hwV
      (fun b pre A B hb hj ho => ⟨hI b pre A B (by omega) hj.1 ho,
        (ho.block _ (Array.getElem?_eq_some_iff.1 hj.2.1).1 (by omega)).trans hj.2.1, (ho.block _ (Array.getElem?_eq_some_iff.1 hj.2.2).1 (by omega)).trans hj.2.2⟩)
      ?round (fun b hb => ⟨hI b [] w V (by omega) (h0 b (by omega)) (OnlyIn.of_below hwV), hVl, hVD⟩)
    · refine main.mono ?_
      rintro e W ⟨⟨v, rfl⟩, b, hb, hi, hl, hd⟩
      refine ⟨none, _, run_endLoop (P := P) hl (by simp [rec_]), ?_⟩
      exact hdone _ b _ (Nat.le_refl _) (by omega) (hIo b xs W _ _ _ (by omega) hi hl rfl) ((only_put (g := 0) _ _ (by omega)).trans hd)
    · rintro b pre x A hb ⟨cs, t, hbc⟩ hpre ⟨hi, hl, hd⟩
      have hbA : b < A.heap.size := (Array.getElem?_eq_some_iff.1 hbc).1
      refine ⟨fn, _, assign, body, run_yield (P := P) (args := encs x) hl (hps x), roundIn_of_wpIn trivial (hassign _ b pre x A _ (by omega) hbA hpre hi ?_)⟩
      intro a' A1 hA1 hax
      have hl1 := (hA1.block _ (Array.getElem?_eq_some_iff.1 hl).1).trans hl
      have hd1 := (hA1.block _ (Array.getElem?_eq_some_iff.1 hd).1).trans hd
      have hb1 := (hA1.block _ hbA).trans hbc
      refine ⟨_, run_beginRound hl1 rfl, ?_⟩
      refine wpIn_mono (hbody _ b pre x a' _ (by omega) ⟨cs, t, (only_put (g := 0) _ _ (by omega)).trans hb1⟩ hpre (hAx b pre x a' A1 _ _ _ (by omega) hax hl1 rfl)) ?_
      rintro e a3 W3 hp
      cases e with
      | normal =>
        obtain ⟨p1, p2, p3, p4⟩ := hp
        have hl3 := p4 _ _ (World.putObj_heap_same (Array.getElem?_eq_some_iff.1 hl1).1) rfl
        have hd3 := p4 (w.heap.size) _ ((only_put (g := 0) _ _ (by omega)).trans hd1) rfl
        refine ⟨_, _, run_endRound (P := P) none hl3, rfl, ⟨hIo b _ W3 _ _ _ (by omega) p1 hl3 rfl, ?_, (only_put (g := 0) _ _ (by omega)).trans hd3⟩, ?_, ?_⟩
        · exact World.putObj_heap_same (Array.getElem?_eq_some_iff.1 hl3).1
        · rw [size_put]
          rw [size_put] at p2
          exact Nat.le_trans hA1.size p2
        · intro k hk
          have hkl : k ≠ w.heap.size + 1 := by
            rcases hk with hk | rfl
            · have := hK k hk; omega
            · omega
          have hkA : k < A.heap.size := by
            rcases hk with hk | rfl
            · have := hK k hk; have := (Array.getElem?_eq_some_iff.1 hl).1; omega
            · exact hbA
          rw [only_put (g := 0) _ _ hkl, p3 k hk, only_put (g := 0) _ _ hkl, hA1.block k hkA]
      | ret => exact hp.elim
      | exit id => exact hp.elim
      | goto t => exact hp.elim
      | panic ch => exact hp.elim
      | outgrown => exact hp.elim
end
end Go.Proofs.Ytamgikcoknkghab.Range

/-
  A web that came in is opened: it reads as a list of knots. No condition.
-/
import Derived.Test.YtmipkngikimjgabWebs
import Derived.Test.YtmipkngikimjgabProg
import Derived.Deep.Slices
import Derived.OpenShut
import Derived.ChangeSlices
import Derived.KernelRfl
namespace Go.Proofs.Ytmipkngikimjgab.Webs
open Go.RowKit Go.Deep Go.ChangeShapes Go.WideShapes Go.Proofs.Ytmipkngikimjgab.Mem Go.Proofs.Ytmipkngikimjgab.Pure Go.Proofs.Ytmipkngikimjgab.Seq Go.Proofs.Ytmipkngikimjgab.Ints
set_option linter.unusedVariables false

/-- WHAT THE WALK IS TOLD OF A SLICE OF KNOTS THAT CAME IN: it reads as the web K. -/
structure IsWeb (w : World) (a : Option Addr) (len cap : Nat) (K : List Kn) : Prop where
  rd : RdK w 0 w.heap.size (.slice a len cap) K
  size : K.length = len
  room : len ≤ cap ∧ cap ≤ maxLen

theorem open_i64s {H : Type} {enc : TypeId × Value → H} {w : World} {base : Nat} {spare : Nat → Bool} {held : Bool} {n : Nat} {x : Value} {y : DataW H × List MemPlace}
    (h : DataW.trod enc Try.prog w base spare held n 31 [x] = some y) : ∃ L : List Int, RdR w 0 w.heap.size 1 x (intR L) := by
  rcases open_ints Try.underlying31 Try.underlying2 (by kernel_rfl) h with ⟨hcs, _⟩ | ⟨a, l, c, zs, hcs, _, hl, hm, hz, _, hcell, hwz⟩
  · injection hcs with hcs
    subst hcs
    exact ⟨[], none, 0, rfl, Nat.le_refl _, Nat.zero_le _, fun i r hr => by simp [intR] at hr⟩
  · injection hcs with hcs
    subst hcs
    have hzl : l ≤ zs.length := by rw [hz]; split <;> omega
    have hlen : (zs.take l).length = l := by rw [List.length_take]; omega
    refine ⟨zs.take l, some a, c, by rw [intR_length, hlen], by rw [intR_length, hlen]; exact hl, hm, fun i r hr => ?_⟩
    have hi : i < l := by have := (List.getElem?_eq_some_iff.1 hr).1; rw [intR_length, hlen] at this; exact this
    obtain ⟨b, o, sp⟩ := a
    have hc := hcell i (by omega)
    have hsp : sp = none := by simpa [Addr.add] using World.cell?_spot (hcell 0 (by omega))
    subst hsp
    rw [Addr.add_lit] at hc
    refine ⟨b, o, rfl, Nat.zero_le _, World.block_lt_of_cell? w _ hc, World.block_lt_of_cell? w _ hc, fun j u hj hu => ?_⟩
    obtain rfl : j = 0 := by omega
    have hx : (zs.take l)[i]? = some (zs.getD i 0) := by
      rw [List.getElem?_take, if_pos hi, List.getElem?_eq_getElem (by omega), List.getD_eq_getElem?_getD, List.getElem?_eq_getElem (by omega)]
      rfl
    rw [intR_get hx] at hr
    injection hr with hr
    subst hr
    simp at hu
    subst hu
    rw [Nat.mul_one, Nat.add_zero]
    exact hc

theorem open_knot {H : Type} {enc : TypeId × Value → H} {w : World} {base : Nat} {spare : Nat → Bool} {held : Bool} {n : Nat} {cs : List Value} {x : DataW H × List MemPlace}
    (h : DataW.trod enc Try.prog w base spare held n 57 cs = some x) : ∃ (k : Kn) (y : Value), cs = [.bool k.t, .bool k.r, y] ∧ RdR w 0 w.heap.size 1 y (intR k.f) := by
  obtain ⟨xs, m, _, _, hlen, hxs, hf⟩ := DataW.trod_struct Try.underlying57 h
  have hc : Try.prog.cellsOf 57 = 3 := by kernel_rfl
  have hcb : Try.prog.cellsOf 4 = 1 := by kernel_rfl
  have hci : Try.prog.cellsOf 31 = 1 := by kernel_rfl
  rw [hc] at hlen
  match cs, hlen, xs, hxs with
  | [x0, x1, x2], _, [y0, y1, y2], _ =>
    have h0 := hf 0 _ rfl
    have h1 := hf 1 _ rfl
    have h2 := hf 2 _ rfl
    simp [hcb, hci] at h0 h1 h2
    obtain ⟨t, e0, _⟩ := DataW.trod_bool Try.underlying4 h0
    obtain ⟨r, e1, _⟩ := DataW.trod_bool Try.underlying4 h1
    obtain ⟨L, hL⟩ := open_i64s h2
    injection e0 with e0
    injection e1 with e1
    subst e0 e1
    exact ⟨⟨t, r, L⟩, x2, rfl, hL⟩

theorem open_web {H : Type} {enc : TypeId × Value → H} {w : World} {base : Nat} {spare : Nat → Bool} {held : Bool} {fuel : Nat} {cs : List Value} {x : DataW H × List MemPlace}
    (h : DataW.trod enc Try.prog w base spare held fuel 37 cs = some x) : ∃ (a : Option Addr) (len cap : Nat) (K : List Kn), cs = [.slice a len cap] ∧ IsWeb w a len cap K := by
  have hc : Try.prog.cellsOf 57 = 3 := by kernel_rfl
  rcases open_slice Try.underlying37 h with ⟨rfl, _⟩ | ⟨a, len, cap, m, n, D, Pl, rfl, _, hl, hm, hmm, _, hi⟩
  · exact ⟨none, 0, 0, [], rfl, ⟨[], rfl, ⟨none, 0, rfl, Nat.le_refl _, Nat.zero_le _, fun i r hr => by simp [knR] at hr⟩, fun i k x hk => by simp at hk⟩, rfl, Nat.le_refl _, Nat.zero_le _⟩
  · rw [hc] at hi
    have hlm : len ≤ m := by
      rw [hmm]
      split
      · exact hl
      · exact Nat.le_refl _
    have hx : ∀ i : Nat, ∃ s : Kn × Value, i < len → (∀ j, j < 3 → w.cell? ((a.add (i * 3)).add j) = ([Value.bool s.1.t, .bool s.1.r, s.2])[j]?) ∧ RdR w 0 w.heap.size 1 s.2 (intR s.1.f) := by
      intro i
      by_cases hq : i < len
      · obtain ⟨cs', h1, h2⟩ := hi i (by omega)
        obtain ⟨_, _, h3⟩ := World.cells?_some h1
        obtain ⟨k, y, rfl, hy⟩ := open_knot h2
        exact ⟨(k, y), fun _ => ⟨h3, hy⟩⟩
      · exact ⟨(⟨false, false, []⟩, .bool false), fun h => absurd h hq⟩
    obtain ⟨f, hf⟩ := Classical.skolem.1 hx
    obtain ⟨b, o, sp⟩ := a
    have hKl : ((List.range len).map fun i => (f i).1).length = len := by simp
    have hVl : ((List.range len).map fun i => (f i).2).length = len := by simp
    have hKg : ∀ {i : Nat} {k : Kn}, ((List.range len).map fun i => (f i).1)[i]? = some k → i < len ∧ k = (f i).1 := by
      intro i k hk
      have hil : i < len := by have := (List.getElem?_eq_some_iff.1 hk).1; simpa using this
      rw [List.getElem?_map, List.getElem?_range hil] at hk
      injection hk with hk
      exact ⟨hil, hk.symm⟩
    have hVg : ∀ {i : Nat} {x : Value}, ((List.range len).map fun i => (f i).2)[i]? = some x → i < len ∧ x = (f i).2 := by
      intro i k hk
      have hil : i < len := by have := (List.getElem?_eq_some_iff.1 hk).1; simpa using this
      rw [List.getElem?_map, List.getElem?_range hil] at hk
      injection hk with hk
      exact ⟨hil, hk.symm⟩
    refine ⟨some ⟨b, o, sp⟩, len, cap, (List.range len).map fun i => (f i).1, rfl, ⟨(List.range len).map fun i => (f i).2, by rw [hKl, hVl], ?_, fun i k x hk hx => ?_⟩, hKl, hl, hm⟩
    · refine ⟨some ⟨b, o, sp⟩, cap, by rw [knR_length (by rw [hKl, hVl]), hKl], by rw [knR_length (by rw [hKl, hVl]), hKl]; exact hl, hm, fun i r hr => ?_⟩
      have hil : i < len := by have := (List.getElem?_eq_some_iff.1 hr).1; rw [knR_length (by rw [hKl, hVl]), hKl] at this; exact this
      have h6 := (hf i hil).1
      have hsp : sp = none := by
        have h5 : w.cell? ((Addr.add ⟨b, o, sp⟩ (0 * 3)).add 0) = some (.bool (f 0).1.t) := (hf 0 (by omega)).1 0 (by omega)
        simpa [Addr.add] using World.cell?_spot h5
      subst hsp
      have hrr : r = [Value.bool (f i).1.t, .bool (f i).1.r, (f i).2] := by
        have h7 : (knR ((List.range len).map fun i => (f i).1) ((List.range len).map fun i => (f i).2))[i]? = some [Value.bool (f i).1.t, .bool (f i).1.r, (f i).2] :=
          knR_get (by rw [List.getElem?_map, List.getElem?_range hil]; rfl) (by rw [List.getElem?_map, List.getElem?_range hil]; rfl)
        rw [h7] at hr
        injection hr with hr
        exact hr.symm
      subst hrr
      simp only [Addr.add_lit] at h6
      refine ⟨b, o, rfl, Nat.zero_le _, ?_, ?_, fun j u hj hu => (h6 j hj).trans hu⟩
      · exact World.block_lt_of_cell? w _ (h6 0 (by omega))
      · exact World.block_lt_of_cell? w _ (h6 0 (by omega))
    · obtain ⟨hil, rfl⟩ := hKg hk
      obtain ⟨_, rfl⟩ := hVg hx
      exact (hf i hil).2
end Go.Proofs.Ytmipkngikimjgab.Webs

/-
  A slice of structs that came in is opened, whatever its elements show; a slice of bytes. No condition.
-/
import Derived.Test.YtmipkngikimjgaaNest
import Derived.Test.YtmipkngikimjgaaProg
import Derived.Test.YtmipkngikimjgaaIn
import Derived.Deep.Slices
import Derived.OpenShut
import Derived.ChangeSlices
import Derived.KernelRfl
namespace Go.Proofs.Ytmipkngikimjgaa.Nest
open Go.RowKit Go.Deep Go.ChangeShapes Go.WideShapes Go.Proofs.Ytmipkngikimjgaa.Mem Go.Proofs.Ytmipkngikimjgaa.Pure Go.Proofs.Ytmipkngikimjgaa.Seq Go.Proofs.Ytmipkngikimjgaa.Ints
set_option linter.unusedVariables false

/-- A slice of structs that came in, whatever its elements show. -/
theorem open_rows {α : Type} {sz : Nat} {S : World → Nat → Nat → α → List Value → Prop} {ok : α → Prop} (k0 : α) {TS T : TypeId} {H : Type} {enc : TypeId × Value → H} {w : World} {base : Nat} {spare : Nat → Bool} {held : Bool} {fuel : Nat} {cs : List Value} {x : DataW H × List MemPlace}
    (hu : Try.prog.underlying TS = some (.slice T)) (hc : Try.prog.cellsOf T = sz) (hsz : 0 < sz) (hlen : ∀ (w : World) (lo hi : Nat) (k : α) (r : List Value), S w lo hi k r → r.length = sz)
    (hel : ∀ (n : Nat) (cs : List Value) (x : DataW H × List MemPlace), DataW.trod enc Try.prog w base spare held n T cs = some x → ∃ k, S w 0 w.heap.size k cs ∧ ok k)
    (h : DataW.trod enc Try.prog w base spare held fuel TS cs = some x) : ∃ (a : Option Addr) (len cap : Nat) (K : List α), cs = [.slice a len cap] ∧ RdG sz S w 0 w.heap.size (.slice a len cap) K ∧ ∀ k ∈ K, ok k := by
  rcases open_slice hu h with ⟨rfl, _⟩ | ⟨a, len, cap, m, n, D, Pl, rfl, _, hl, hm, hmm, _, hi⟩
  · exact ⟨none, 0, 0, [], rfl, rdG_nil, fun k hk => by simp at hk⟩
  · rw [hc] at hi
    have hlm : len ≤ m := by
      rw [hmm]
      split
      · exact hl
      · exact Nat.le_refl _
    have hx : ∀ i : Nat, ∃ s : α × List Value, i < len → (∀ j, j < sz → w.cell? ((a.add (i * sz)).add j) = s.2[j]?) ∧ S w 0 w.heap.size s.1 s.2 ∧ ok s.1 := by
      intro i
      by_cases hq : i < len
      · obtain ⟨cs', h1, h2⟩ := hi i (by omega)
        obtain ⟨_, _, h3⟩ := World.cells?_some h1
        obtain ⟨k, hk, hok⟩ := hel _ _ _ h2
        exact ⟨(k, cs'), fun _ => ⟨h3, hk, hok⟩⟩
      · exact ⟨(k0, []), fun h => absurd h hq⟩
    obtain ⟨f, hf⟩ := Classical.skolem.1 hx
    obtain ⟨b, o, sp⟩ := a
    have hg : ∀ {β : Type} (F : α × List Value → β) {i : Nat} {k : β}, ((List.range len).map fun i => F (f i))[i]? = some k → i < len ∧ k = F (f i) := by
      intro β F i k hk
      have hil : i < len := by have := (List.getElem?_eq_some_iff.1 hk).1; simpa using this
      rw [List.getElem?_map, List.getElem?_range hil] at hk
      injection hk with hk
      exact ⟨hil, hk.symm⟩
    refine ⟨some ⟨b, o, sp⟩, len, cap, (List.range len).map fun i => (f i).1, rfl, ⟨(List.range len).map fun i => (f i).2, by simp, ?_, fun i k r hk hr => ?_⟩, fun k hk => ?_⟩
    · refine ⟨some ⟨b, o, sp⟩, cap, by simp, by simpa using hl, hm, fun i r hr => ?_⟩
      obtain ⟨hil, rfl⟩ := hg (fun s => s.2) hr
      have h6 := (hf i hil).1
      have hln := hlen _ _ _ _ _ (hf i hil).2.1
      have h5 := h6 0 hsz
      rw [List.getElem?_eq_getElem (by omega)] at h5
      have hsp : sp = none := by
        have h0 := (hf 0 (by omega)).1 0 hsz
        have hl0 := hlen _ _ _ _ _ (hf 0 (by omega)).2.1
        rw [List.getElem?_eq_getElem (by omega)] at h0
        simpa [Addr.add] using World.cell?_spot h0
      subst hsp
      simp only [Addr.add_lit] at h6 h5
      exact ⟨b, o, rfl, Nat.zero_le _, World.block_lt_of_cell? w _ h5, World.block_lt_of_cell? w _ h5, fun j u hj hu => (h6 j hj).trans hu⟩
    · obtain ⟨hil, rfl⟩ := hg (fun s => s.1) hk
      obtain ⟨_, rfl⟩ := hg (fun s => s.2) hr
      exact (hf i hil).2.1
    · obtain ⟨i, hi, rfl⟩ := List.getElem_of_mem hk
      have := hg (fun s => s.1) (List.getElem?_eq_getElem hi)
      rw [this.2]
      exact (hf i this.1).2.2

theorem open_bytes' {H : Type} {enc : TypeId × Value → H} {w : World} {base : Nat} {spare : Nat → Bool} {held : Bool} {n : Nat} {x : Value} {y : DataW H × List MemPlace}
    (h : DataW.trod enc Try.prog w base spare held n 22 [x] = some y) : ∃ L : List Int, Rd w 0 w.heap.size x L ∧ Byt L := by
  rcases open_ints Try.underlying22 Try.underlying5 (by kernel_rfl) h with ⟨hcs, _⟩ | ⟨a, l, c, zs, hcs, _, hl, hm, hz, _, hcell, hwz⟩
  · injection hcs with hcs
    subst hcs
    exact ⟨[], ⟨none, 0, rfl, Nat.le_refl _, Nat.zero_le _, fun k hk => absurd hk (by simp)⟩, fun x hx => by simp at hx⟩
  · injection hcs with hcs
    subst hcs
    have hzl : l ≤ zs.length := by rw [hz]; split <;> omega
    have hlen : (zs.take l).length = l := by rw [List.length_take]; omega
    refine ⟨zs.take l, ⟨some a, c, by rw [hlen], by omega, hm, fun k hk => ?_⟩, fun x hx => bounds_u8 (hwz x (List.mem_of_mem_take hx))⟩
    rw [hlen] at hk
    obtain ⟨b, off, spot⟩ := a
    have hc := hcell k (by omega)
    have hspot : spot = none := by simpa [Addr.add] using World.cell?_spot (hcell 0 (by omega))
    subst hspot
    rw [Addr.add_lit] at hc
    refine ⟨b, off, rfl, Nat.zero_le _, World.block_lt_of_cell? w _ hc, World.block_lt_of_cell? w _ hc, ?_⟩
    rw [hc, List.getD_eq_getElem?_getD, List.getD_eq_getElem?_getD, List.getElem?_take, if_pos hk]
end Go.Proofs.Ytmipkngikimjgaa.Nest

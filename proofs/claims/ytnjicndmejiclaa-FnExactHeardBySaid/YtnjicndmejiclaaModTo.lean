/-
  toThing, toThingS, toRoom, toRoomS, toModel: they copy what they are given. At most 1048576 in all.
-/
import Derived.Test.YtnjicndmejiclaaMods
namespace Go.Proofs.Ytnjicndmejiclaa.Mods
open Go.RowKit Go.Proofs.Ytnjicndmejiclaa.Mem Go.Proofs.Ytnjicndmejiclaa.Pure Go.Proofs.Ytnjicndmejiclaa.Help Go.Proofs.Ytnjicndmejiclaa.Seq Go.Proofs.Ytnjicndmejiclaa.Ints Go.Proofs.Ytnjicndmejiclaa.Nest
set_option linter.unusedVariables false

theorem only_in {lo hi g : Nat} (w : World) (k : Nat) (x : Value) (h : lo ≤ g ∧ g < hi) : OnlyIn lo hi w (w.setCell ⟨g, k, none⟩ x) :=
  ⟨rfl, rfl, rfl, by simp, fun i hi hn => Below.heap_setCell w _ _ i (by show i ≠ g; omega)⟩
theorem blk_set {w : World} {g : Nat} {cs : Array Value} {t : TypeId} (h : Blk w g cs t) (k : Nat) (x : Value) : Blk (w.setCell ⟨g, k, none⟩ x) g (cs.setIfInBounds k x) t := by
  unfold Blk at *
  simp [World.setCell, Array.getElem?_modify, h]
theorem blk_other {w : World} {g q : Nat} {cs : Array Value} {t : TypeId} (h : Blk w g cs t) (k : Nat) (x : Value) (hq : g ≠ q) : Blk (w.setCell ⟨q, k, none⟩ x) g cs t := by
  unfold Blk at *
  rw [← h]
  exact Below.heap_setCell w _ _ g hq

theorem own_form {w : World} {lo hi : Nat} {v : Value} {L : List Int} (h : Own w lo hi v L) : ∃ A n c, v = .slice A n c := by
  obtain ⟨A, c, hv, _⟩ := h.rd
  exact ⟨A, _, c, hv⟩

theorem rdR_form {w : World} {lo hi sz : Nat} {v : Value} {R : List (List Value)} (h : RdR w lo hi sz v R) : ∃ A n c, v = .slice A n c := by
  obtain ⟨A, c, hv, _⟩ := h
  exact ⟨A, _, c, hv⟩
theorem rd_form {w : World} {lo hi : Nat} {v : Value} {L : List Int} (h : Rd w lo hi v L) : ∃ A n c, v = .slice A n c := by
  obtain ⟨A, c, hv, _⟩ := h
  exact ⟨A, _, c, hv⟩
theorem setRow5 (w : World) (g o : Nat) (a b c d e : Value) : setRowAt w g o [a, b, c, d, e] = ((((w.setCell ⟨g, o, none⟩ a).setCell ⟨g, o + 1, none⟩ b).setCell ⟨g, o + 2, none⟩ c).setCell ⟨g, o + 3, none⟩ d).setCell ⟨g, o + 4, none⟩ e := rfl
theorem setRow4 (w : World) (g o : Nat) (a b c d : Value) : setRowAt w g o [a, b, c, d] = (((w.setCell ⟨g, o, none⟩ a).setCell ⟨g, o + 1, none⟩ b).setCell ⟨g, o + 2, none⟩ c).setCell ⟨g, o + 3, none⟩ d := rfl

theorem blk4 {w : World} {g : Nat} {a b c d : Value} {t : TypeId} (h : Blk w g #[a, b, c, d] t) :
    (w.cell? ⟨g, 0, none⟩ = some a ∧ w.cell? ⟨g, 1, none⟩ = some b ∧ w.cell? ⟨g, 2, none⟩ = some c ∧ w.cell? ⟨g, 3, none⟩ = some d) ∧ w.frozen? ⟨g, 0, none⟩ = false ∧ w.frozen? ⟨g, 1, none⟩ = false ∧ w.frozen? ⟨g, 2, none⟩ = false ∧ w.frozen? ⟨g, 3, none⟩ = false :=
  ⟨⟨h.cell 0, h.cell 1, h.cell 2, h.cell 3⟩, h.free 0, h.free 1, h.free 2, h.free 3⟩
theorem blk3 {w : World} {g : Nat} {a b c : Value} {t : TypeId} (h : Blk w g #[a, b, c] t) :
    (w.cell? ⟨g, 0, none⟩ = some a ∧ w.cell? ⟨g, 1, none⟩ = some b ∧ w.cell? ⟨g, 2, none⟩ = some c) ∧ w.frozen? ⟨g, 0, none⟩ = false ∧ w.frozen? ⟨g, 1, none⟩ = false ∧ w.frozen? ⟨g, 2, none⟩ = false :=
  ⟨⟨h.cell 0, h.cell 1, h.cell 2⟩, h.free 0, h.free 1, h.free 2⟩
theorem rdG_form {α : Type} {sz : Nat} {S : World → Nat → Nat → α → List Value → Prop} {w : World} {lo hi : Nat} {v : Value} {K : List α} (h : RdG sz S w lo hi v K) : ∃ A n c, v = .slice A n c := by
  obtain ⟨A, c, hv, _⟩ := h.form
  exact ⟨A, _, c, hv⟩

end Go.Proofs.Ytnjicndmejiclaa.Mods

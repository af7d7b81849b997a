/-
  markOrderS turns nothing but the row. At most 1048576 in all.
-/
import Derived.Test.YtmipkngikimjgaaOrd
namespace Go.Proofs.Ytmipkngikimjgaa.Ord
open Go.RowKit Go.Proofs.Ytmipkngikimjgaa.Mem Go.Proofs.Ytmipkngikimjgaa.Pure Go.Proofs.Ytmipkngikimjgaa.Help Go.Proofs.Ytmipkngikimjgaa.Seq Go.Proofs.Ytmipkngikimjgaa.Ints Go.Proofs.Ytmipkngikimjgaa.Nest Go.Proofs.Ytmipkngikimjgaa.Mods
set_option linter.unusedVariables false

/-- A row of n orders of one's own, whatever they are. -/
def Raw (w : World) (lo hi : Nat) (v : Value) (n : Nat) : Prop := ∃ R : List (List Value), R.length = n ∧ OwnR w lo hi 90 6 v R
theorem OwnO.raw {w : World} {lo hi : Nat} {v : Value} {K : List Od} (h : OwnO w lo hi v K) : Raw w lo hi v K.length := by
  obtain ⟨R, h1, h2, _⟩ := h
  exact ⟨R, h1, h2⟩
theorem Raw.below {w w' : World} {lo hi n : Nat} {v : Value} (h : Raw w lo hi v n) (hb : Below w.heap.size w w') : Raw w' lo hi v n := by
  obtain ⟨R, h1, h2⟩ := h
  exact ⟨R, h1, h2.below hb⟩
theorem Raw.form {w : World} {lo hi n : Nat} {v : Value} (h : Raw w lo hi v n) : ∃ A c, v = .slice A n c := by
  obtain ⟨R, rfl, h2⟩ := h
  obtain ⟨A, c, hv, _⟩ := h2.rd
  exact ⟨A, c, hv⟩
theorem Raw.cells {w : World} {lo hi n c i : Nat} {A : Option Addr} (h : Raw w lo hi (.slice A n c) n) (hi' : i < n) :
    ∃ g, A = some ⟨g, 0, none⟩ ∧ lo ≤ g ∧ g < hi ∧ g < w.heap.size ∧ ∀ j, j < 6 → w.frozen? ⟨g, i * 6 + j, none⟩ = false ∧ ∃ u, w.cell? ⟨g, i * 6 + j, none⟩ = some u := by
  obtain ⟨R, h1, h2⟩ := h
  have hR : R[i]? = some (R[i]'(by omega)) := List.getElem?_eq_getElem (by omega)
  obtain ⟨g, hA, g1, g2, g3, hput⟩ := h2.put hR
  refine ⟨g, hA, g1, g2, g3, fun j hj => ?_⟩
  obtain ⟨f, ⟨u, _, hc⟩, _⟩ := hput j hj
  exact ⟨f, u, hc⟩
theorem Raw.put5 {w : World} {lo hi n c i g : Nat} (h : Raw w lo hi (.slice (some ⟨g, 0, none⟩) n c) n) (hi' : i < n) (x0 x1 x2 x3 x4 : Value) :
    Raw (((((w.setCell ⟨g, i * 6, none⟩ x0).setCell ⟨g, i * 6 + 1, none⟩ x1).setCell ⟨g, i * 6 + 2, none⟩ x2).setCell ⟨g, i * 6 + 3, none⟩ x3).setCell ⟨g, i * 6 + 4, none⟩ x4) lo hi (.slice (some ⟨g, 0, none⟩) n c) n ∧
      OnlyIn lo hi w (((((w.setCell ⟨g, i * 6, none⟩ x0).setCell ⟨g, i * 6 + 1, none⟩ x1).setCell ⟨g, i * 6 + 2, none⟩ x2).setCell ⟨g, i * 6 + 3, none⟩ x3).setCell ⟨g, i * 6 + 4, none⟩ x4) := by
  obtain ⟨R, h1, h2⟩ := h
  have hR : R[i]? = some (R[i]'(by omega)) := List.getElem?_eq_getElem (by omega)
  obtain ⟨p1, p2⟩ := OwnR.puts [x0, x1, x2, x3, x4] (j := 0) h2 hR (by simp)
  rw [Nat.add_zero, setRow5] at p1 p2
  exact ⟨⟨_, by simp [h1], p1⟩, p2⟩
theorem Raw.put1 {w : World} {lo hi n c i g : Nat} (h : Raw w lo hi (.slice (some ⟨g, 0, none⟩) n c) n) (hi' : i < n) (x : Value) :
    Raw (w.setCell ⟨g, i * 6 + 5, none⟩ x) lo hi (.slice (some ⟨g, 0, none⟩) n c) n ∧ OnlyIn lo hi w (w.setCell ⟨g, i * 6 + 5, none⟩ x) := by
  obtain ⟨R, h1, h2⟩ := h
  have hR : R[i]? = some (R[i]'(by omega)) := List.getElem?_eq_getElem (by omega)
  obtain ⟨g', hA, _, _, _, hput⟩ := h2.put hR
  injection hA with hA
  injection hA with hA
  subst hA
  obtain ⟨_, _, hs⟩ := hput 5 (by omega)
  obtain ⟨p1, p2⟩ := hs x
  exact ⟨⟨_, by simp [h1], p1⟩, p2⟩

set_option maxHeartbeats 2000000 in
theorem markOrderS (w : World) {lo hi : Nat} {v : Value} {n s : Nat} (h : Raw w lo hi v n) (hn : n ≤ 1048576) (hs : s ≤ 16777216) :
    Calls Try.prog 33 #[v, .int .i64 s] w (fun e w' => e = .returned (.int .i64 ((s + 6 * n : Nat) : Int)) ∧ OnlyIn lo hi w w') := by
  have HO := Lib.hid h
  obtain ⟨A, c, rfl⟩ := h.form
  clear h
  go_enter Try.func33, Try.ntmps33
  go_wp2_with fail
  go_loopw [1, 5] (fun t i wr => ∃ (k m : Nat), k ≤ n ∧ i = .int .i64 k ∧ t = .int .i64 (m : Int) ∧ m ≤ 33554432 ∧ Hid (m = s + 6 * k) ∧ Hid (Raw wr lo hi (.slice A n c) n) ∧ Hid (OnlyIn lo hi w wr))
    (fun _ i _ => n - (intOf i).toNat)
  case atStart => exact ⟨0, s, Nat.zero_le _, rfl, rfl, by omega, Lib.hid (by omega), HO, Lib.hid (OnlyIn.refl _ _ _)⟩
  case round =>
    obtain ⟨k, m, hk, rfl, rfl, hm4, hme, ho, hb⟩ := hrel
    by_cases hlt : k < n
    · obtain ⟨g, rfl, g1, g2, g3, hc⟩ := ho.out.cells hlt
      obtain ⟨f0, u0, c0⟩ := hc 0 (by omega)
      obtain ⟨f1, u1, c1⟩ := hc 1 (by omega)
      obtain ⟨f2, u2, c2⟩ := hc 2 (by omega)
      obtain ⟨f3, u3, c3⟩ := hc 3 (by omega)
      obtain ⟨f4, u4, c4⟩ := hc 4 (by omega)
      rw [Nat.add_zero] at f0 c0
      have HP := Lib.hid (ho.out.put5 hlt (.int .i64 (m : Int)) (.int .i64 ((m : Int) + 1)) (.int .i64 ((m : Int) + 1 + 1)) (.int .i64 ((m : Int) + 1 + 1 + 1)) (.int .i64 ((m : Int) + 1 + 1 + 1 + 1)))
      have HMT : Hid (∀ w2 : World, Calls Try.prog 62 #[.int .i64 ((m : Int) + 1 + 1 + 1 + 1 + 1)] w2 (fun e w' => ∃ s, e = .returned (.string s) ∧ Below w2.heap.size w2 w')) := Lib.hid (fun w2 => by
        have := markText w2 (k := m + 5) (by omega)
        rwa [show ((m + 5 : Nat) : Int) = (m : Int) + 1 + 1 + 1 + 1 + 1 by omega] at this)
      clear hc
      go_wp2_with fail
      refine (HMT.out _).mono ?_
      rintro e w2 ⟨tx, rfl, hb2⟩
      have HR2 := Lib.hid (HP.out.1.below hb2)
      have HT2 := Lib.hid ((hb.out.trans HP.out.2).trans (OnlyIn.of_below hb2))
      have HQ := Lib.hid (HR2.out.put1 hlt (.string tx))
      clear f0 u0 c0 f1 u1 c1 f2 u2 c2 f3 u3 c3 f4 u4 c4 hb2
      obtain ⟨g', hA, _, _, _, hc⟩ := HR2.out.cells hlt
      injection hA with hA
      injection hA with hA
      subst hA
      obtain ⟨f5, u5, c5⟩ := hc 5 (by omega)
      clear hc
      go_wp2
      go_roundw
      case rel => exact ⟨k + 1, m + 6, by omega, by go_num, by go_num, by have := hme.out; omega, Lib.hid (by have := hme.out; omega), Lib.hid HQ.out.1, Lib.hid (HT2.out.trans HQ.out.2)⟩
      case measure => simp [intOf]; omega
    · obtain rfl : k = n := by omega
      go_wp2
      go_ret
      refine ⟨?_, hb.out⟩
      rw [← hme.out]
      rfl
end Go.Proofs.Ytmipkngikimjgaa.Ord

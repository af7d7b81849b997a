/-
  A model that came in is opened: it reads as a list of rooms, of things; its data are bytes. No condition.
-/
import Derived.Test.YtmipkngikimjgaaMods
import Derived.Test.YtmipkngikimjgaaOpenG
import Derived.Test.YtmipkngikimjgaaProg
import Derived.Test.YtmipkngikimjgaaIn
import Derived.Deep.Slices
import Derived.OpenShut
import Derived.ChangeSlices
import Derived.KernelRfl
namespace Go.Proofs.Ytmipkngikimjgaa.Mods
open Go.RowKit Go.Deep Go.ChangeShapes Go.WideShapes Go.Proofs.Ytmipkngikimjgaa.Mem Go.Proofs.Ytmipkngikimjgaa.Pure Go.Proofs.Ytmipkngikimjgaa.Seq Go.Proofs.Ytmipkngikimjgaa.Ints Go.Proofs.Ytmipkngikimjgaa.Nest
set_option linter.unusedVariables false

theorem open_i64s' {H : Type} {enc : TypeId × Value → H} {w : World} {base : Nat} {spare : Nat → Bool} {held : Bool} {n : Nat} {x : Value} {y : DataW H × List MemPlace}
    (h : DataW.trod enc Try.prog w base spare held n 67 [x] = some y) : ∃ L : List Int, RdR w 0 w.heap.size 1 x (intR L) := by
  rcases open_ints Try.underlying67 Try.underlying2 (by kernel_rfl) h with ⟨hcs, _⟩ | ⟨a, l, c, zs, hcs, _, hl, hm, hz, _, hcell, hwz⟩
  · injection hcs with hcs
    subst hcs
    exact ⟨[], none, 0, rfl, Nat.le_refl _, Nat.zero_le _, fun i r hr => by simp [intR] at hr⟩
  · injection hcs with hcs
    subst hcs
    have hzl : l ≤ zs.length := by rw [hz]; split <;> omega
    have hlen : (zs.take l).length = l := by rw [List.length_take]; omega
    refine ⟨zs.take l, some a, c, by rw [intR_length, hlen], by rw [intR_length, hlen]; exact hl, hm, fun i r hr => ?_⟩
    have hi : i < l := by have := (List.getElem?_eq_some_iff.1 hr).1; rw [intR_length, hlen] at this; exact this
    obtain ⟨b, o, sp⟩ := a
    have hc := hcell i (by omega)
    have hsp : sp = none := by simpa [Addr.add] using World.cell?_spot (hcell 0 (by omega))
    subst hsp
    rw [Addr.add_lit] at hc
    refine ⟨b, o, rfl, Nat.zero_le _, World.block_lt_of_cell? w _ hc, World.block_lt_of_cell? w _ hc, fun j u hj hu => ?_⟩
    obtain rfl : j = 0 := by omega
    have hx : (zs.take l)[i]? = some (zs.getD i 0) := by
      rw [List.getElem?_take, if_pos hi, List.getElem?_eq_getElem (by omega), List.getD_eq_getElem?_getD, List.getElem?_eq_getElem (by omega)]
      rfl
    rw [intR_get hx] at hr
    injection hr with hr
    subst hr
    simp at hu
    subst hu
    rw [Nat.mul_one, Nat.add_zero]
    exact hc

set_option maxRecDepth 100000 in
theorem open_thing {H : Type} {enc : TypeId × Value → H} {w : World} {base : Nat} {spare : Nat → Bool} {held : Bool} {n : Nat} {cs : List Value} {x : DataW H × List MemPlace}
    (h : DataW.trod enc Try.prog w base spare held n 118 cs = some x) : ∃ k : Th, thS w 0 w.heap.size k cs ∧ ThOk k := by
  obtain ⟨xs, m, _, _, hlen, hxs, hf⟩ := DataW.trod_struct Try.underlying118 h
  have hc : Try.prog.cellsOf 118 = 5 := by kernel_rfl
  have hcb : Try.prog.cellsOf 4 = 1 := by kernel_rfl
  have hcn : Try.prog.cellsOf 2 = 1 := by kernel_rfl
  have hci : Try.prog.cellsOf 67 = 1 := by kernel_rfl
  have hcu : Try.prog.cellsOf 22 = 1 := by kernel_rfl
  rw [hc] at hlen
  match cs, hlen, xs, hxs with
  | [x0, x1, x2, x3, x4], _, [y0, y1, y2, y3, y4], _ =>
    have h0 := hf 0 _ rfl
    have h1 := hf 1 _ rfl
    have h2 := hf 2 _ rfl
    have h3 := hf 3 _ rfl
    have h4 := hf 4 _ rfl
    simp [hcb, hci, hcn, hcu] at h0 h1 h2 h3 h4
    obtain ⟨u, e0, _⟩ := DataW.trod_bool Try.underlying4 h0
    obtain ⟨r, e1, _⟩ := DataW.trod_bool Try.underlying4 h1
    obtain ⟨g, e2, _, _⟩ := DataW.trod_int Try.underlying2 h2
    obtain ⟨L, hL⟩ := open_i64s' h3
    obtain ⟨D, hD, hok⟩ := open_bytes' h4
    injection e0 with e0
    injection e1 with e1
    injection e2 with e2
    subst e0 e1 e2
    exact ⟨⟨u, r, g, L, D⟩, ⟨x3, x4, rfl, hL, hD⟩, hok⟩

set_option maxRecDepth 100000 in
theorem open_room {H : Type} {enc : TypeId × Value → H} {w : World} {base : Nat} {spare : Nat → Bool} {held : Bool} {n : Nat} {cs : List Value} {x : DataW H × List MemPlace}
    (h : DataW.trod enc Try.prog w base spare held n 107 cs = some x) : ∃ k : Rm, rmS w 0 w.heap.size k cs ∧ RmOk k := by
  obtain ⟨xs, m, _, _, hlen, hxs, hf⟩ := DataW.trod_struct Try.underlying107 h
  have hc : Try.prog.cellsOf 107 = 4 := by kernel_rfl
  have hcb : Try.prog.cellsOf 4 = 1 := by kernel_rfl
  have hcn : Try.prog.cellsOf 2 = 1 := by kernel_rfl
  have hci : Try.prog.cellsOf 105 = 1 := by kernel_rfl
  rw [hc] at hlen
  match cs, hlen, xs, hxs with
  | [x0, x1, x2, x3], _, [y0, y1, y2, y3], _ =>
    have h0 := hf 0 _ rfl
    have h1 := hf 1 _ rfl
    have h2 := hf 2 _ rfl
    have h3 := hf 3 _ rfl
    simp [hcb, hci, hcn] at h0 h1 h2 h3
    obtain ⟨u, e0, _⟩ := DataW.trod_bool Try.underlying4 h0
    obtain ⟨r, e1, _⟩ := DataW.trod_int Try.underlying2 h1
    obtain ⟨g, e2, _, _⟩ := DataW.trod_int Try.underlying2 h2
    obtain ⟨a, l, c, K, e3, hK, hok⟩ := open_rows (S := thS) (ok := ThOk) ⟨false, false, 0, [], []⟩ Try.underlying105 (by kernel_rfl) (by omega) (fun w lo hi k r h => shTh.len h) (fun n cs x h => open_thing h) h3
    injection e0 with e0
    injection e1 with e1
    injection e2 with e2
    injection e3 with e3
    subst e0 e1 e2 e3
    exact ⟨⟨u, r, g, K⟩, ⟨_, rfl, hK⟩, hok⟩

theorem open_rooms {H : Type} {enc : TypeId × Value → H} {w : World} {base : Nat} {spare : Nat → Bool} {held : Bool} {n : Nat} {cs : List Value} {x : DataW H × List MemPlace}
    (h : DataW.trod enc Try.prog w base spare held n 37 cs = some x) : ∃ (a : Option Addr) (len cap : Nat) (K : List Rm), cs = [.slice a len cap] ∧ RdG 4 rmS w 0 w.heap.size (.slice a len cap) K ∧ ∀ k ∈ K, RmOk k :=
  open_rows (S := rmS) (ok := RmOk) ⟨false, 0, 0, []⟩ Try.underlying37 (by kernel_rfl) (by omega) (fun w lo hi k r h => shRm.len h) (fun n cs x h => open_room h) h
end Go.Proofs.Ytmipkngikimjgaa.Mods

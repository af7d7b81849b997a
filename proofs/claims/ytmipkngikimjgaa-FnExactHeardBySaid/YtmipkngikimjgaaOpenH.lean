/-
  Orders and answers that came in are opened. No condition.
-/
import Derived.Test.YtmipkngikimjgaaOpenG
import Derived.Test.YtmipkngikimjgaaAnsF
import Derived.Test.YtmipkngikimjgaaOrd
namespace Go.Proofs.Ytmipkngikimjgaa.Ord
open Go.RowKit Go.Deep Go.ChangeShapes Go.WideShapes Go.Proofs.Ytmipkngikimjgaa.Mem Go.Proofs.Ytmipkngikimjgaa.Pure Go.Proofs.Ytmipkngikimjgaa.Seq Go.Proofs.Ytmipkngikimjgaa.Ints Go.Proofs.Ytmipkngikimjgaa.Nest Go.Proofs.Ytmipkngikimjgaa.Ans
set_option linter.unusedVariables false

/-- WHAT THE WALK IS TOLD OF A SLICE OF ORDERS, OF ANSWERS, THAT CAME IN. -/
structure IsOrds (w : World) (a : Option Addr) (len cap : Nat) (K : List Od) : Prop where
  rd : RdG 6 odS w 0 w.heap.size (.slice a len cap) K
  ok : ∀ k ∈ K, OdOk k
structure IsAns (w : World) (a : Option Addr) (len cap : Nat) (K : List An) : Prop where
  rd : RdG 3 anS w 0 w.heap.size (.slice a len cap) K
  ok : ∀ k ∈ K, Byt k.d

set_option maxRecDepth 100000 in
theorem open_order {H : Type} {enc : TypeId × Value → H} {w : World} {base : Nat} {spare : Nat → Bool} {held : Bool} {n : Nat} {cs : List Value} {x : DataW H × List MemPlace}
    (h : DataW.trod enc Try.prog w base spare held n 86 cs = some x) : ∃ k : Od, odS w 0 w.heap.size k cs ∧ OdOk k := by
  obtain ⟨xs, m, _, _, hlen, hxs, hf⟩ := DataW.trod_struct Try.underlying86 h
  have hc : Try.prog.cellsOf 86 = 6 := by kernel_rfl
  have hcn : Try.prog.cellsOf 2 = 1 := by kernel_rfl
  have hcs : Try.prog.cellsOf 9 = 1 := by kernel_rfl
  rw [hc] at hlen
  match cs, hlen, xs, hxs with
  | [x0, x1, x2, x3, x4, x5], _, [y0, y1, y2, y3, y4, y5], _ =>
    have h0 := hf 0 _ rfl
    have h1 := hf 1 _ rfl
    have h2 := hf 2 _ rfl
    have h3 := hf 3 _ rfl
    have h4 := hf 4 _ rfl
    have h5 := hf 5 _ rfl
    simp [hcn, hcs] at h0 h1 h2 h3 h4 h5
    obtain ⟨p, e0, _, _⟩ := DataW.trod_int Try.underlying2 h0
    obtain ⟨q, e1, _, _⟩ := DataW.trod_int Try.underlying2 h1
    obtain ⟨a, e2, _, _⟩ := DataW.trod_int Try.underlying2 h2
    obtain ⟨b, e3, _, _⟩ := DataW.trod_int Try.underlying2 h3
    obtain ⟨c, e4, _, _⟩ := DataW.trod_int Try.underlying2 h4
    obtain ⟨s, e5, _, hs⟩ := DataW.trod_string Try.underlying9 h5
    injection e0 with e0
    injection e1 with e1
    injection e2 with e2
    injection e3 with e3
    injection e4 with e4
    injection e5 with e5
    subst e0 e1 e2 e3 e4 e5
    exact ⟨⟨p, q, a, b, c, s⟩, rfl, hs⟩

set_option maxRecDepth 100000 in
theorem open_answer {H : Type} {enc : TypeId × Value → H} {w : World} {base : Nat} {spare : Nat → Bool} {held : Bool} {n : Nat} {cs : List Value} {x : DataW H × List MemPlace}
    (h : DataW.trod enc Try.prog w base spare held n 89 cs = some x) : ∃ k : An, anS w 0 w.heap.size k cs ∧ Byt k.d := by
  obtain ⟨xs, m, _, _, hlen, hxs, hf⟩ := DataW.trod_struct Try.underlying89 h
  have hc : Try.prog.cellsOf 89 = 3 := by kernel_rfl
  have hcn : Try.prog.cellsOf 2 = 1 := by kernel_rfl
  have hcu : Try.prog.cellsOf 22 = 1 := by kernel_rfl
  rw [hc] at hlen
  match cs, hlen, xs, hxs with
  | [x0, x1, x2], _, [y0, y1, y2], _ =>
    have h0 := hf 0 _ rfl
    have h1 := hf 1 _ rfl
    have h2 := hf 2 _ rfl
    simp [hcn, hcu] at h0 h1 h2
    obtain ⟨p, e0, _, _⟩ := DataW.trod_int Try.underlying2 h0
    obtain ⟨q, e1, _, _⟩ := DataW.trod_int Try.underlying2 h1
    obtain ⟨D, hD, hok⟩ := open_bytes' h2
    injection e0 with e0
    injection e1 with e1
    subst e0 e1
    exact ⟨⟨p, q, D⟩, ⟨_, rfl, hD⟩, hok⟩

set_option maxRecDepth 100000 in
theorem open_orders {H : Type} {enc : TypeId × Value → H} {w : World} {base : Nat} {spare : Nat → Bool} {held : Bool} {n : Nat} {cs : List Value} {x : DataW H × List MemPlace}
    (h : DataW.trod enc Try.prog w base spare held n 47 cs = some x) : ∃ (a : Option Addr) (len cap : Nat) (K : List Od), cs = [.slice a len cap] ∧ IsOrds w a len cap K := by
  obtain ⟨a, l, c, K, h1, h2, h3⟩ := open_rows (S := odS) (ok := OdOk) ⟨0, 0, 0, 0, 0, ByteArray.empty⟩ Try.underlying47 (by kernel_rfl) (by omega) (fun w lo hi k r h => shOd.len h) (fun n cs x h => open_order h) h
  exact ⟨a, l, c, K, h1, h2, h3⟩

set_option maxRecDepth 100000 in
theorem open_answers {H : Type} {enc : TypeId × Value → H} {w : World} {base : Nat} {spare : Nat → Bool} {held : Bool} {n : Nat} {cs : List Value} {x : DataW H × List MemPlace}
    (h : DataW.trod enc Try.prog w base spare held n 48 cs = some x) : ∃ (a : Option Addr) (len cap : Nat) (K : List An), cs = [.slice a len cap] ∧ IsAns w a len cap K := by
  obtain ⟨a, l, c, K, h1, h2, h3⟩ := open_rows (S := anS) (ok := fun k => Byt k.d) ⟨0, 0, []⟩ Try.underlying48 (by kernel_rfl) (by omega) (fun w lo hi k r h => shAn.len h) (fun n cs x h => open_answer h) h
  exact ⟨a, l, c, K, h1, h2, h3⟩
end Go.Proofs.Ytmipkngikimjgaa.Ord

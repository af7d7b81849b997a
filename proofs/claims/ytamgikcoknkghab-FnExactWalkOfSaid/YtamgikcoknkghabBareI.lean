/-
  The program's spanThere, isBare and BareIn, the model's BareIn. Lengths to 1048576, numbers of 64 bits.
-/
import Derived.Test.YtamgikcoknkghabFloorI
import Derived.Test.YtamgikcoknkghabFloorS
import Derived.Test.YtamgikcoknkghabPure3
namespace Go.Proofs.Ytamgikcoknkghab.BareI
open Go.RowKit Go.Proofs.Ytamgikcoknkghab.Mem Go.Proofs.Ytamgikcoknkghab.Pure Go.Proofs.Ytamgikcoknkghab.Help Go.Proofs.Ytamgikcoknkghab.FloorI
set_option linter.unusedVariables false

set_option maxHeartbeats 400000 in
theorem spanThere (w : World) {lo hi : Nat} {v : Value} {L : List Int} (h : Rd w lo hi v L) (hL : L.length ≤ 1048576) {f t : Int} (hf : I64 f) (ht : I64 t) :
    Calls Try.prog 46 #[v, .int .i64 f, .int .i64 t] w (RetV w (.bool (spanB L f t))) := by
  unfold spanB
  obtain ⟨f1, f2⟩ := hf
  obtain ⟨t1, t2⟩ := ht
  by_cases h1 : 0 ≤ f
  · by_cases h2 : f ≤ t
    · have HQ := Lib.hid (allThere w h hL (a := f) (n := t - f) ⟨f1, f2⟩ ⟨by omega, by omega⟩)
      rw [decide_eq_true ⟨h1, h2⟩, Bool.true_and]
      clear h
      obtain ⟨X, hX⟩ : ∃ X, X = there L f (t - f) := ⟨_, rfl⟩
      rw [← hX] at HQ ⊢
      clear hX
      go_enter Try.func46, Try.ntmps46
      go_wp2_with fail
      refine HQ.out.mono ?_
      rintro e w1 ⟨rfl, hb1⟩
      cases X
      · go_wp2
        go_ret
        exact ⟨rfl, hb1⟩
      · go_wp2
        go_ret
        exact ⟨rfl, hb1⟩
    · rw [decide_eq_false (by omega), Bool.false_and]
      clear h
      go_enter Try.func46, Try.ntmps46
      go_wp2
      go_ret
      exact ⟨by first | rfl | simp, Below.refl _ _⟩
  · rw [decide_eq_false (by omega), Bool.false_and]
    clear h
    go_enter Try.func46, Try.ntmps46
    go_wp2
    go_ret
    exact ⟨by first | rfl | simp, Below.refl _ _⟩

theorem all_zero {L : List Int} {n : Nat} (h : ∀ k, k < n → L.getD k 0 = 0) (hn : n = L.length) : L.all (· == 0) = true := by
  rw [List.all_eq_true]
  intro x hx
  obtain ⟨k, hk, rfl⟩ := List.mem_iff_getElem.1 hx
  have := h k (by omega)
  rw [List.getD_eq_getElem?_getD, List.getElem?_eq_getElem hk] at this
  simpa using this
theorem not_zero {L : List Int} {k : Nat} (hk : k < L.length) (h : L.getD k 0 ≠ 0) : L.all (· == 0) = false := by
  rw [Bool.eq_false_iff]
  intro hc
  rw [List.all_eq_true] at hc
  have := hc (L[k]) (List.getElem_mem hk)
  rw [List.getD_eq_getElem?_getD, List.getElem?_eq_getElem hk] at h
  exact h (by simpa using this)

set_option maxHeartbeats 400000 in
theorem isBare (w : World) {lo hi : Nat} {v : Value} {L : List Int} (h : Rd w lo hi v L) :
    Calls Try.prog 50 #[v] w (RetV w (.bool (L.all (· == 0)))) := by
  have hrd := h
  obtain ⟨A, c, rfl, hc, hm, _⟩ := h
  obtain ⟨n, hn⟩ : ∃ n, n = L.length := ⟨_, rfl⟩
  have HN : Hid (n = L.length) := hn
  rw [← hn] at hc hrd ⊢
  have hnm : n ≤ 9223372036854775807 := by unfold maxLen at hm; omega
  clear hn hm hc
  go_enter Try.func50, Try.ntmps50
  go_wp2_with fail
  go_loopw [7] (fun i wr => ∃ k : Nat, k ≤ n ∧ i = .int .i64 k ∧ Hid (∀ j, j < k → L.getD j 0 = 0) ∧ Below w.heap.size w wr) (fun i _ => n - (intOf i).toNat)
  case atStart => exact ⟨0, Nat.zero_le _, rfl, fun j hj => absurd hj (by omega), Below.refl _ _⟩
  case round =>
    obtain ⟨k, hk, rfl, ho, hb⟩ := hrel
    by_cases hlt : k < n
    · obtain ⟨b, o, hA, _, _, hck⟩ := (hrd.below hb).spot (k := k) (by have := HN.out; omega)
      subst hA
      obtain ⟨x, hx⟩ : ∃ x, x = L.getD k 0 := ⟨_, rfl⟩
      rw [← hx] at hck
      have HX : Hid (x = L.getD k 0) := hx
      clear hx
      by_cases hx0 : x = 0
      · subst hx0
        go_wp2
        go_roundw
        case rel =>
          refine ⟨k + 1, by omega, by go_num, ?_, hb⟩
          intro j hj
          by_cases e : j = k
          · subst e; exact HX.out.symm
          · exact ho.out j (by omega)
        case measure => simp [intOf]; omega
      · have hx1 : (x != 0) = true := by simpa using hx0
        go_wp2
        go_ret
        refine ⟨?_, hb⟩
        rw [not_zero (k := k) (by have := HN.out; omega) (by rw [← HX.out]; exact hx0)]
        rfl
    · obtain rfl : k = n := by omega
      go_wp2
      go_ret
      refine ⟨?_, hb⟩
      rw [all_zero ho.out HN.out]
      rfl

theorem span_nat {L : List Int} {f t : Int} (h : spanB L f t = true) : ∃ a n : Nat, f = a ∧ t = (a + n : Nat) ∧ a + n ≤ L.length ∧ L.length ≤ 1024 := by
  have := spanB_iff.1 h
  exact ⟨f.toNat, (t - f).toNat, by omega, by omega, by omega, by omega⟩

set_option maxHeartbeats 400000 in
theorem bareIn (w : World) {lo hi : Nat} {v : Value} {L : List Int} (h : Rd w lo hi v L) (hL : L.length ≤ 1048576) {f t : Int} (hf : I64 f) (ht : I64 t) :
    Calls Try.prog 27 #[v, .int .i64 f, .int .i64 t] w (RetV w (.bool (bareB L f t))) := by
  have HQ := Lib.hid (spanThere w h hL hf ht)
  unfold bareB
  cases hs : spanB L f t with
  | false =>
    rw [hs] at HQ
    clear hs h
    rw [Bool.false_and]
    go_enter Try.func27, Try.ntmps27
    go_wp2_with fail
    refine HQ.out.mono ?_
    rintro e w1 ⟨rfl, hb1⟩
    go_wp2
    go_ret
    exact ⟨by first | rfl | simp, hb1⟩
  | true =>
    obtain ⟨a, n, rfl, rfl, h1, h2⟩ := span_nat hs
    rw [hs] at HQ
    have e1 : ((a + n : Nat) : Int) - (a : Int) = (n : Int) := by omega
    rw [e1, Bool.true_and]
    have HR := Lib.hid h
    obtain ⟨A, c, rfl, hc, hm, _⟩ := h
    have HC := Lib.hid (fun w' : World => cutI w' (A := A) (m := L.length) (c := c) (x := (a : Int)) (y := ((a + n : Nat) : Int) - (a : Int)) a n rfl e1 (by omega) hm)
    have HB := Lib.hid (fun (w' : World) (d : Value) (hb : Below w.heap.size w w') (hp : PartIn (.slice A L.length c) d a n) => isBare w' (lo := lo) (hi := hi) ((HR.out.below hb).part hp h1))
    have HP : Hid (piece L (a : Int) (n : Int) = (L.drop a).take n) := rfl
    rw [HP.out]
    obtain ⟨X, hX⟩ : ∃ X, X = ((L.drop a).take n).all (· == 0) := ⟨_, rfl⟩
    rw [← hX] at HB ⊢
    obtain ⟨m, hm⟩ : ∃ m, m = L.length := ⟨_, rfl⟩
    rw [← hm] at HC HB HQ ⊢
    have b1 : a + n ≤ 1024 := by omega
    rw [show ((a + n : Nat) : Int) = (a : Int) + (n : Int) by omega] at HC HQ ⊢
    clear hX hs h1 h2 hc hm e1
    go_enter Try.func27, Try.ntmps27
    go_wp2_with fail
    refine HQ.out.mono ?_
    rintro e w1 ⟨rfl, hb1⟩
    have HB1 := Lib.hid hb1
    clear hb1
    go_wp2_with fail
    refine (HC.out w1).mono ?_
    rintro e w2 ⟨d, rfl, hp, rfl⟩
    have HD := Lib.hid hp
    clear hp
    go_wp2_with fail
    refine (HB.out w1 d HB1.out HD.out).mono ?_
    rintro e w3 ⟨rfl, hb3⟩
    cases X
    · go_wp2
      go_ret
      exact ⟨by first | rfl | simp, below_then HB1.out hb3 (Nat.le_refl _)⟩
    · go_wp2
      go_ret
      exact ⟨by first | rfl | simp, below_then HB1.out hb3 (Nat.le_refl _)⟩
end Go.Proofs.Ytamgikcoknkghab.BareI

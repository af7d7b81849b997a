/-
  The model's BareIn. Lengths to 1048576, numbers of 64 bits.
-/
import Derived.Test.YtamgikcoknkghabBareI
namespace Go.Proofs.Ytamgikcoknkghab.BareS
open Go.RowKit Go.Proofs.Ytamgikcoknkghab.Mem Go.Proofs.Ytamgikcoknkghab.Pure Go.Proofs.Ytamgikcoknkghab.Help Go.Proofs.Ytamgikcoknkghab.FloorI Go.Proofs.Ytamgikcoknkghab.BareI
set_option linter.unusedVariables false

theorem i64_wrap (x : Int) : I64 (wrap64 x) := by
  unfold I64 wrap64
  omega

set_option maxHeartbeats 400000 in
theorem bareIn (w : World) {lo hi : Nat} {v : Value} {L : List Int} (h : Rd w lo hi v L) (hL : L.length ≤ 1048576) {f t : Int} (hf : I64 f) (ht : I64 t) :
    Calls Try.prog 28 #[v, .int .i64 f, .int .i64 t] w (RetV w (.bool (bareB L f t))) := by
  have HQ := Lib.hid (fun (n : Int) (hn : I64 n) => FloorS.l1There w h hL (a := f) (n := n) hf hn)
  unfold bareB
  cases hs : spanB L f t with
  | false =>
    rw [Bool.false_and]
    by_cases h1 : t < f
    · clear hs h
      go_enter Try.func28, Try.ntmps28
      go_wp2
      go_ret
      exact ⟨by first | rfl | simp, Below.refl _ _⟩
    · have hw : ∀ n : Int, (0 ≤ f → n = t - f) → there L f n = false := by
        intro n hn
        rw [Bool.eq_false_iff]
        intro hc
        have h2 := there_iff.1 hc
        have : spanB L f t = true := by
          rw [spanB_iff]
          have := hn h2.2.1
          omega
        rw [hs] at this
        cases this
      by_cases h0 : 0 ≤ f
      · have HX : Hid (there L f (t - f) = false) := hw _ (fun _ => rfl)
        obtain ⟨f1, f2⟩ := hf
        obtain ⟨t1, t2⟩ := ht
        have HQ2 := Lib.hid (HQ.out (t - f) ⟨by omega, by omega⟩)
        rw [HX.out] at HQ2
        clear hw hs h
        go_enter Try.func28, Try.ntmps28
        go_wp2_with fail
        refine HQ2.out.mono ?_
        rintro e w1 ⟨rfl, rfl⟩
        go_wp2
        go_ret
        exact ⟨by first | rfl | simp, Below.refl _ _⟩
      · have HW := Lib.hid hw
        have hneg : f < 0 := by omega
        clear hw hs h
        go_enter Try.func28, Try.ntmps28
        go_wp2_with fail
        refine (HQ.out _ (i64_wrap _)).mono ?_
        rw [HW.out _ (fun hx => by omega)]
        rintro e w1 ⟨rfl, rfl⟩
        go_wp2
        go_ret
        exact ⟨by first | rfl | simp, Below.refl _ _⟩
  | true =>
    obtain ⟨a, n, rfl, rfl, h1, h2⟩ := span_nat hs
    have hth : there L (a : Int) (n : Int) = true := by rw [there_iff]; omega
    have HQ2 := Lib.hid (HQ.out (n : Int) ⟨by omega, by omega⟩)
    rw [hth] at HQ2
    have e1 : ((a + n : Nat) : Int) - (a : Int) = (n : Int) := by omega
    have HE := Lib.hid e1
    have hrd := h
    obtain ⟨A, c, rfl, hc, hm, _⟩ := h
    rw [e1, Bool.true_and]
    have HP : Hid (piece L (a : Int) (n : Int) = (L.drop a).take n) := rfl
    have HL : Hid (((L.drop a).take n).length = n) := by
      have : ((L.drop a).take n).length = n := by rw [List.length_take, List.length_drop]; omega
      exact this
    rw [HP.out]
    have HG : Hid (∀ k, k < n → ((L.drop a).take n).getD k 0 = L.getD (a + k) 0) := by
      intro k hk
      rw [List.getD_eq_getElem?_getD, List.getD_eq_getElem?_getD, List.getElem?_take, if_pos hk, List.getElem?_drop]
    obtain ⟨m, hmm⟩ : ∃ m, m = L.length := ⟨_, rfl⟩
    have HM : Hid (m = L.length) := hmm
    have b1 : a + n ≤ m := by omega
    have b2 : m ≤ 1024 := by omega
    rw [← hmm] at hc hrd ⊢
    rw [← hmm] at HQ2
    have e2 : (a : Int) + (n : Int) - (a : Int) = (n : Int) := by omega
    have HE2 := Lib.hid e2
    rw [show ((a + n : Nat) : Int) = (a : Int) + (n : Int) by omega]
    clear HQ hf ht hs h1 h2 hth hmm e1 hm hL e2
    go_enter Try.func28, Try.ntmps28
    go_wp2_with fail
    rw [HE2.out]
    refine HQ2.out.mono ?_
    rintro e w1 ⟨rfl, rfl⟩
    go_wp2_with fail
    go_loopw [7] (fun i wr => ∃ k : Nat, k ≤ n ∧ i = .int .i64 ((a + k : Nat) : Int) ∧ Hid (∀ j, j < k → ((L.drop a).take n).getD j 0 = 0) ∧ Below w.heap.size w wr) (fun i _ => a + n - (intOf i).toNat)
    case atStart => exact ⟨0, Nat.zero_le _, rfl, fun j hj => absurd hj (by omega), Below.refl _ _⟩
    case round =>
      obtain ⟨k, hk, rfl, ho, hb⟩ := hrel
      by_cases hlt : k < n
      · obtain ⟨b, o, hA, _, _, hck⟩ := (hrd.below hb).spot (k := a + k) (by have := HM.out; omega)
        subst hA
        obtain ⟨x, hx⟩ : ∃ x, x = L.getD (a + k) 0 := ⟨_, rfl⟩
        rw [← hx] at hck
        have HX : Hid (x = L.getD (a + k) 0) := hx
        clear hx
        by_cases hx0 : x = 0
        · subst hx0
          go_wp2
          go_roundw
          case rel =>
            refine ⟨k + 1, by omega, by go_num, ?_, hb⟩
            intro j hj
            by_cases e : j = k
            · subst e; exact (HG.out j (by omega)).trans HX.out.symm
            · exact ho.out j (by omega)
          case measure => simp [intOf]; omega
        · have hx1 : (x != 0) = true := by simpa using hx0
          go_wp2
          go_ret
          refine ⟨?_, hb⟩
          rw [not_zero (k := k) (by have := HL.out; omega) (by rw [HG.out k (by omega), ← HX.out]; exact hx0)]
          rfl
      · obtain rfl : k = n := by omega
        go_wp2
        go_ret
        refine ⟨?_, hb⟩
        rw [all_zero ho.out HL.out.symm]
        rfl
end Go.Proofs.Ytamgikcoknkghab.BareS

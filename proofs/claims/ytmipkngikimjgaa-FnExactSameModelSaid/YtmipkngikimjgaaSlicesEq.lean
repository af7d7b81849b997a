/-
  slices.Equal at rows of numbers and of bytes: whether they are the same list. No condition.
-/
import Derived.Test.YtmipkngikimjgaaInts
import Derived.BigQuiet
namespace Go.Proofs.Ytmipkngikimjgaa.SlicesEq
open Go.RowKit Go.Proofs.Ytmipkngikimjgaa.Mem Go.Proofs.Ytmipkngikimjgaa.Help Go.Proofs.Ytmipkngikimjgaa.Seq Go.Proofs.Ytmipkngikimjgaa.Ints
set_option linter.unusedVariables false

theorem take_next {α : Type} {A B : List α} {k : Nat} {x : α} (h : A.take k = B.take k) (ha : A[k]? = some x) (hb : B[k]? = some x) : A.take (k + 1) = B.take (k + 1) := by
  obtain ⟨h1, e1⟩ := List.getElem?_eq_some_iff.1 ha
  obtain ⟨h2, e2⟩ := List.getElem?_eq_some_iff.1 hb
  rw [List.take_succ_eq_append_getElem h1, List.take_succ_eq_append_getElem h2, h, e1, e2]

set_option maxHeartbeats 1000000 in
theorem ints (w : World) {la ha lb hb : Nat} {va vb : Value} {L M : List Int} (hA : RdR w la ha 1 va (intR L)) (hB : RdR w lb hb 1 vb (intR M)) :
    Calls Try.prog 108 #[va, vb] w (RetV w (.bool (decide (L = M)))) := by
  have HA := Lib.hid hA
  have HB := Lib.hid hB
  obtain ⟨A, ca, rfl, hca, hma, hzz⟩ := hA
  clear hzz
  obtain ⟨B, cb, rfl, hcb, hmb, hzz⟩ := hB
  clear hzz
  rw [intR_length] at HA HB hca hcb ⊢
  rw [intR_length]
  obtain ⟨n, hn⟩ : ∃ n, n = L.length := ⟨_, rfl⟩
  obtain ⟨m, hm⟩ : ∃ m, m = M.length := ⟨_, rfl⟩
  have HN := Lib.hid hn
  have HM := Lib.hid hm
  rw [← hn] at HA hca ⊢
  rw [← hm] at HB hcb ⊢
  have hnm : n ≤ 9223372036854775807 := by unfold maxLen at hma; omega
  obtain ⟨X, hX⟩ : ∃ X, X = decide (L = M) := ⟨_, rfl⟩
  have HX := Lib.hid hX
  rw [← hX]
  clear hn hm hma hmb hca hcb hX
  by_cases hl : n = m
  · subst hl
    go_enter Try.func108, Try.ntmps108
    go_wp2_with fail
    go_loopw [13] (fun i wr => ∃ k : Nat, k ≤ n ∧ i = .int .i64 k ∧ Hid (L.take k = M.take k) ∧ Hid (Below w.heap.size w wr)) (fun i _ => n - (intOf i).toNat)
    case atStart => exact ⟨0, Nat.zero_le _, rfl, Lib.hid rfl, Lib.hid (Below.refl _ _)⟩
    case round =>
      obtain ⟨k, hk, rfl, ho, hb⟩ := hrel
      by_cases hlt : k < n
      · obtain ⟨p, hp, hpp⟩ := int_at (L := L) (k := k) (by have := HN.out; omega)
        obtain ⟨q, hq, hqq⟩ := int_at (L := M) (k := k) (by have := HM.out; omega)
        have HP := Lib.hid hp
        have HQ := Lib.hid hq
        obtain ⟨b1, o1, rfl, hb1, x0⟩ := one (HA.out.below hb.out) hpp
        obtain ⟨b2, o2, rfl, hb2, y0⟩ := one (HB.out.below hb.out) hqq
        clear hp hpp hq hqq
        by_cases hpq : p = q
        · subst hpq
          go_wp2_with fail
          go_quiet (fail)
          have HD := Lib.hid (fun q => drawn (n := q) hb.out)
          go_wp2_with fail
          go_roundw
          case rel => exact ⟨k + 1, by omega, by go_num, Lib.hid (take_next ho.out HP.out HQ.out), Lib.hid (HD.out _)⟩
          case measure => simp [intOf]; omega
        · have hpq' : (p != q) = true := by simpa using hpq
          have HF : Hid (X = false) := Lib.hid (by
            rw [HX.out, decide_eq_false_iff_not]
            intro e
            rw [e, HQ.out] at HP
            have := HP.out
            injection this with this
            exact hpq this.symm)
          go_wp2_with fail
          go_quiet (fail)
          have HD := Lib.hid (fun q => drawn (n := q) hb.out)
          go_wp2_with fail
          go_ret
          exact ⟨by rw [HF.out]; rfl, HD.out _⟩
      · obtain rfl : k = n := by omega
        have HF : Hid (X = true) := Lib.hid (by
          rw [HX.out, decide_eq_true_iff]
          have := ho.out
          rwa [List.take_of_length_le (by have := HN.out; omega), List.take_of_length_le (by have := HM.out; omega)] at this)
        go_wp2
        go_ret
        exact ⟨by rw [HF.out]; rfl, hb.out⟩
  · have hl' : ((n : Int) == (m : Int)) = false := by rw [beq_eq_false_iff_ne]; omega
    have hl2 : ((n : Int) != (m : Int)) = true := by rw [bne_iff_ne]; omega
    have HF : Hid (X = false) := Lib.hid (by
      rw [HX.out, decide_eq_false_iff_not]
      rintro rfl
      exact hl (HN.out.trans HM.out.symm))
    go_enter Try.func108, Try.ntmps108
    go_wp2
    go_ret
    exact ⟨by rw [HF.out]; rfl, Below.refl _ _⟩

theorem byt_at {L : List Int} {k : Nat} (hk : k < L.length) : ∃ x, L[k]? = some x ∧ L.getD k 0 = x := ⟨L[k], List.getElem?_eq_getElem hk, by rw [List.getD_eq_getElem?_getD, List.getElem?_eq_getElem hk]; rfl⟩

set_option maxHeartbeats 1000000 in
theorem bytes (w : World) {la ha lb hb : Nat} {va vb : Value} {L M : List Int} (hA : Rd w la ha va L) (hB : Rd w lb hb vb M) :
    Calls Try.prog 109 #[va, vb] w (RetV w (.bool (decide (L = M)))) := by
  have HA := Lib.hid hA
  have HB := Lib.hid hB
  obtain ⟨A, ca, rfl, hca, hma, hzz⟩ := hA
  clear hzz
  obtain ⟨B, cb, rfl, hcb, hmb, hzz⟩ := hB
  clear hzz
  obtain ⟨n, hn⟩ : ∃ n, n = L.length := ⟨_, rfl⟩
  obtain ⟨m, hm⟩ : ∃ m, m = M.length := ⟨_, rfl⟩
  have HN := Lib.hid hn
  have HM := Lib.hid hm
  rw [← hn] at HA hca ⊢
  rw [← hm] at HB hcb ⊢
  have hnm : n ≤ 9223372036854775807 := by unfold maxLen at hma; omega
  obtain ⟨X, hX⟩ : ∃ X, X = decide (L = M) := ⟨_, rfl⟩
  have HX := Lib.hid hX
  rw [← hX]
  clear hn hm hma hmb hca hcb hX
  by_cases hl : n = m
  · subst hl
    go_enter Try.func109, Try.ntmps109
    go_wp2_with fail
    go_loopw [13] (fun i wr => ∃ k : Nat, k ≤ n ∧ i = .int .i64 k ∧ Hid (L.take k = M.take k) ∧ Hid (Below w.heap.size w wr)) (fun i _ => n - (intOf i).toNat)
    case atStart => exact ⟨0, Nat.zero_le _, rfl, Lib.hid rfl, Lib.hid (Below.refl _ _)⟩
    case round =>
      obtain ⟨k, hk, rfl, ho, hb⟩ := hrel
      by_cases hlt : k < n
      · obtain ⟨p, hp, hpp⟩ := byt_at (L := L) (k := k) (by have := HN.out; omega)
        obtain ⟨q, hq, hqq⟩ := byt_at (L := M) (k := k) (by have := HM.out; omega)
        have HP := Lib.hid hp
        have HQ := Lib.hid hq
        obtain ⟨b1, o1, rfl, hb1, hb1', x0⟩ := (HA.out.below hb.out).spot (k := k) (by have := HN.out; omega)
        obtain ⟨b2, o2, rfl, hb2, hb2', y0⟩ := (HB.out.below hb.out).spot (k := k) (by have := HM.out; omega)
        rw [hpp] at x0
        rw [hqq] at y0
        clear hp hpp hq hqq
        by_cases hpq : p = q
        · subst hpq
          go_wp2_with fail
          go_quiet (fail)
          have HD := Lib.hid (fun q => drawn (n := q) hb.out)
          go_wp2_with fail
          go_roundw
          case rel => exact ⟨k + 1, by omega, by go_num, Lib.hid (take_next ho.out HP.out HQ.out), Lib.hid (HD.out _)⟩
          case measure => simp [intOf]; omega
        · have hpq' : (p != q) = true := by simpa using hpq
          have HF : Hid (X = false) := Lib.hid (by
            rw [HX.out, decide_eq_false_iff_not]
            intro e
            rw [e, HQ.out] at HP
            have := HP.out
            injection this with this
            exact hpq this.symm)
          go_wp2_with fail
          go_quiet (fail)
          have HD := Lib.hid (fun q => drawn (n := q) hb.out)
          go_wp2_with fail
          go_ret
          exact ⟨by rw [HF.out]; rfl, HD.out _⟩
      · obtain rfl : k = n := by omega
        have HF : Hid (X = true) := Lib.hid (by
          rw [HX.out, decide_eq_true_iff]
          have := ho.out
          rwa [List.take_of_length_le (by have := HN.out; omega), List.take_of_length_le (by have := HM.out; omega)] at this)
        go_wp2
        go_ret
        exact ⟨by rw [HF.out]; rfl, hb.out⟩
  · have hl' : ((n : Int) == (m : Int)) = false := by rw [beq_eq_false_iff_ne]; omega
    have hl2 : ((n : Int) != (m : Int)) = true := by rw [bne_iff_ne]; omega
    have HF : Hid (X = false) := Lib.hid (by
      rw [HX.out, decide_eq_false_iff_not]
      rintro rfl
      exact hl (HN.out.trans HM.out.symm))
    go_enter Try.func109, Try.ntmps109
    go_wp2
    go_ret
    exact ⟨by rw [HF.out]; rfl, Below.refl _ _⟩
end Go.Proofs.Ytmipkngikimjgaa.SlicesEq

/-
  FnWalks: whatever floor, beginning and end are drawn, the program's walk is the model's, and goes from its beginning to its end; what is bare in the program's eyes is so in the model's. No condition.
-/
import Derived.Test.YtamgikcoknkghabDraw3
import Derived.Test.YtamgikcoknkghabWalkS
import Derived.Test.YtamgikcoknkghabBareS
import Derived.Test.YtamgikcoknkghabHelpP
import Derived.Test.YtamgikcoknkghabIn
namespace Go.Proofs.Ytamgikcoknkghab.fnWalksW
open Go.RowKit Go.Proofs.Ytamgikcoknkghab.Mem Go.Proofs.Ytamgikcoknkghab.Pure Go.Proofs.Ytamgikcoknkghab.Help Go.Proofs.Ytamgikcoknkghab.FloorI Go.Proofs.Ytamgikcoknkghab.HeadI Go.Proofs.Ytamgikcoknkghab.Cur Go.Proofs.Ytamgikcoknkghab.Seq Go.Proofs.Ytamgikcoknkghab.WalkI Go.Proofs.Ytamgikcoknkghab.HelpP
set_option linter.unusedVariables false

set_option maxHeartbeats 1000000 in
theorem big (w : World) {v : Value} {lo hi : Nat} {L : List Int} (h : Rd w lo hi v L) :
    Calls Try.prog 21 #[v] w fun e w' => e = .returned (.bool (decide (4096 < L.length))) ∧ w = w' := by
  obtain ⟨A, c, rfl, _, hm, _⟩ := h
  unfold maxLen at hm
  go_enter Try.func21, Try.ntmps21
  go_wp2
  go_ret
  refine ⟨?_, rfl⟩
  first | rfl | (simp; omega)

/-- The walk, read off its test. -/
theorem walkP_yes {L : List Int} {f t : Int} (h : walkB L f t = true) : ∃ C : List Int, walkP L f t = walkL C f ∧ endOf f (walkL C f) = t := by
  have h0 := h
  unfold walkB at h
  rw [Bool.and_eq_true, decide_eq_true_eq] at h
  refine ⟨L.take t.toNat, ?_, h.2⟩
  unfold walkP
  rw [if_pos h0]

set_option maxRecDepth 100000 in
set_option maxHeartbeats 4000000 in
theorem small (a0 : Option Addr) (len0 cap0 : Nat) (z0 : List Int) (w : World) (q0 : IsRow .u8 w a0 len0 cap0 z0) (hs0 : len0 ≤ 4096) :
    Calls Try.prog 6 #[.slice a0 len0 cap0] w fun e w' => e = .returned (.bool true) ∧ Below w.heap.size w w' := by
  have r0 := q0.rd
  have hlen0 := q0.len
  have hy0 := q0.byt
  obtain ⟨C, hC⟩ : ∃ Z, Z = z0.take len0 := ⟨_, rfl⟩
  rw [← hC] at r0 hlen0 hy0
  have HR0 := Lib.hid r0; have HL0 : Hid (C.length ≤ 4096) := Lib.hid (by omega); have HY0 := Lib.hid hy0
  have HBIG : Hid (∀ w1 : World, Below w.heap.size w w1 → Calls Try.prog 21 #[.slice a0 len0 cap0] w1 fun e w2 => e = .returned (.bool false) ∧ w1 = w2) := Lib.hid (fun w1 hb => by have := big w1 (r0.below hb); rwa [decide_eq_false (by omega)] at this)
  clear r0 hlen0 hy0 hC q0 hs0
  go_enter Try.func6, Try.ntmps6
  go_wp2_with fail
  refine (HBIG.out w (Below.refl _ _)).mono ?_
  rintro e w1 ⟨rfl, rfl⟩
  go_wp2_with fail
  refine (drawWalkOf w HR0.out HL0.out HY0.out).mono ?_
  rintro e w1 ⟨v1, L1, f, t, rfl, ho1, hy1, hl1, hf, ht, hb1⟩
  have HB1 := Lib.hid hb1
  have HO1 := Lib.hid ho1
  have HF := Lib.hid hf
  have HI := Lib.hid (fun (w' : World) (hb : Below w1.heap.size w1 w') => WalkI.walkOf w' (ho1.rd.below hb) (show L1.length ≤ 1048576 by omega) hy1 hf ht)
  have HP := Lib.hid (fun (w' : World) (hb : Below w1.heap.size w1 w') => WalkS.walkOf w' (ho1.rd.below hb) (show L1.length ≤ 1048576 by omega) hy1 hf ht)
  have HYES := Lib.hid (walkP_yes (L := L1) (f := f) (t := t))
  have HNO := Lib.hid (walkP_no (L := L1) (f := f) (t := t))
  obtain ⟨P, hP⟩ : ∃ P, P = walkP L1 f t := ⟨_, rfl⟩
  obtain ⟨X, hX⟩ : ∃ X, X = walkB L1 f t := ⟨_, rfl⟩
  rw [← hP, ← hX] at HI HP HYES HNO
  clear hP hX hb1 ho1 hy1 hl1 hf ht
  go_wp2_with fail
  refine (HI.out w1 (Below.refl _ _)).mono ?_
  rintro e w2 ⟨v2, rfl, ho2, hb2⟩
  have HO2 := Lib.hid ho2
  have HB2 := Lib.hid hb2
  obtain ⟨A2, c2, rfl, _, hm2, hz2⟩ := ho2.rd
  rw [List.length_map] at HO2 ⊢
  have hn2 : P.length ≤ 9223372036854775807 := by rw [List.length_map] at *; unfold maxLen at hm2; omega
  clear hb2 ho2 hz2 hm2
  go_wp2_with fail
  refine (HP.out w2 HB2.out).mono ?_
  rintro e w3 ⟨v3, rfl, ho3, hb3⟩
  have HO3 := Lib.hid ho3
  have HB3 := Lib.hid hb3
  clear hb3 ho3
  have HW3 : Hid (Below w.heap.size w w3) := Lib.hid (below_then (below_then HB1.out HB2.out (Nat.le_refl _)) HB3.out (Nat.le_refl _))
  go_wp2_with fail
  refine (drawBareIn w3 ((HR0.out.below HW3.out).more (Nat.le_refl _) HW3.out.size) HL0.out HY0.out).mono ?_
  rintro e w4 ⟨v4, L4, a4, t4, rfl, ho4, hy4, hl4, ha4, ht4, hb4⟩
  have HB4 := Lib.hid hb4
  have HBI := Lib.hid (fun (w' : World) (hb : Below w4.heap.size w4 w') => BareI.bareIn w' (ho4.rd.below hb) (show L4.length ≤ 1048576 by omega) ha4 ht4)
  have HBS := Lib.hid (fun (w' : World) (hb : Below w4.heap.size w4 w') => BareS.bareIn w' (ho4.rd.below hb) (show L4.length ≤ 1048576 by omega) ha4 ht4)
  obtain ⟨Y, hY⟩ : ∃ Y, Y = bareB L4 a4 t4 := ⟨_, rfl⟩
  rw [← hY] at HBI HBS
  have HV2 := Lib.hid ((HO2.out.below HB3.out).below hb4)
  have HV3 := Lib.hid (HO3.out.below hb4)
  clear hY hb4 ho4 hy4 hl4 ha4 ht4
  cases X
  · obtain rfl : P = [] := HNO.out rfl
    rw [List.length_nil] at HO2 HV2 ⊢
    go_wp2_with fail
    refine (likePlaces_same _ HV2.out.rd HV3.out.rd).mono ?_
    rintro e w5 ⟨rfl, hb5⟩
    have HB5 := Lib.hid hb5
    clear hb5
    go_wp2_with fail
    refine (HBI.out w5 HB5.out).mono ?_
    rintro e w6 ⟨rfl, hb6⟩
    have HB6 : Hid (Below w4.heap.size w4 w6) := Lib.hid (below_then HB5.out hb6 (Nat.le_refl _))
    clear hb6
    go_wp2_with fail
    refine (HBS.out w6 HB6.out).mono ?_
    rintro e w7 ⟨rfl, hb7⟩
    have HB7 : Hid (Below w4.heap.size w4 w7) := Lib.hid (below_then HB6.out hb7 (Nat.le_refl _))
    have HW7 : Hid (Below w.heap.size w w7) := Lib.hid (below_then (below_then HW3.out HB4.out (Nat.le_refl _)) HB7.out (Nat.le_refl _))
    clear hb7
    go_wp2
    go_ret
    exact ⟨rfl, HW7.out⟩
  · obtain ⟨Cc, hPc, hend⟩ := HYES.out rfl
    have HPC := Lib.hid hPc
    have HEND := Lib.hid hend
    clear hPc hend
    obtain ⟨n, hn⟩ : ∃ n, n = P.length := ⟨_, rfl⟩
    have HN := Lib.hid hn
    rw [← hn] at HO2 HV2 hn2 ⊢
    clear hn
    go_wp2_with fail
    refine (likePlaces_same _ HV2.out.rd HV3.out.rd).mono ?_
    rintro e w5 ⟨rfl, hb5⟩
    have HB5 := Lib.hid hb5
    clear hb5
    go_wp2_with fail
    refine (HBI.out w5 HB5.out).mono ?_
    rintro e w6 ⟨rfl, hb6⟩
    have HB6 : Hid (Below w4.heap.size w4 w6) := Lib.hid (below_then HB5.out hb6 (Nat.le_refl _))
    clear hb6
    go_wp2_with fail
    refine (HBS.out w6 HB6.out).mono ?_
    rintro e w7 ⟨rfl, hb7⟩
    have HB7 : Hid (Below w4.heap.size w4 w7) := Lib.hid (below_then HB6.out hb7 (Nat.le_refl _))
    have HW7 : Hid (Below w.heap.size w w7) := Lib.hid (below_then (below_then HW3.out HB4.out (Nat.le_refl _)) HB7.out (Nat.le_refl _))
    clear hb7
    go_wp2_with fail
    go_loopw [13, 14] (fun av iv wr => ∃ k : Nat, k ≤ n ∧ iv = .int .i64 k ∧ av = .int .i64 (endOf f (P.take k)) ∧ Below w7.heap.size w7 wr) (fun _ iv _ => n - (intOf iv).toNat)
    case atStart => exact ⟨0, Nat.zero_le _, rfl, rfl, Below.refl _ _⟩
    case round =>
      obtain ⟨k, hk, rfl, rfl, hb⟩ := hrel
      by_cases hlt : k < n
      · obtain ⟨p, hpp, hp⟩ := pl_at (P := P) (k := k) (by have := HN.out; omega)
        obtain ⟨b, o, rfl, hbl, c0, c1, _⟩ := five ((HV2.out.rd.below HB7.out).below hb) hp
        have hmem : p ∈ walkL Cc f := by rw [← HPC.out]; exact List.mem_of_getElem? hpp
        obtain ⟨m1, m2, m3, m4, _⟩ := walkL_mem hmem
        have hch : p.a = endOf f (P.take k) := by
          have := walkL_chain (L := Cc) _ f (Nat.le_refl _) k p (by rw [← HPC.out]; exact hpp)
          rwa [← HPC.out] at this
        have hnx : endOf f (P.take (k + 1)) = p.a + p.h.s := by
          have hkl : k < P.length := (List.getElem?_eq_some_iff.1 hpp).1
          rw [List.take_succ_eq_append_getElem hkl, endOf_snoc, (List.getElem?_eq_some_iff.1 hpp).2]
          rfl
        have HNX := Lib.hid hnx
        rw [← hch]
        clear hch hnx hmem hp hpp
        go_wp2
        go_roundw
        case rel => exact ⟨k + 1, by omega, by go_num, by rw [HNX.out], hb⟩
        case measure => simp [intOf]; omega
      · obtain rfl : k = n := by omega
        have he : endOf f (P.take k) = t := by
          rw [List.take_of_length_le (by rw [← HN.out]; exact Nat.le_refl _), HPC.out]
          exact HEND.out
        rw [he]
        clear he
        go_wp2
        go_ret
        exact ⟨rfl, below_then HW7.out hb (Nat.le_refl _)⟩

set_option maxRecDepth 100000 in
set_option maxHeartbeats 1000000 in
theorem walk (a0 : Option Addr) (len0 cap0 : Nat) (z0 : List Int) (w : World) (q0 : IsRow .u8 w a0 len0 cap0 z0) :
    Calls Try.prog 6 #[.slice a0 len0 cap0] w fun e w' => e = .returned (.bool true) ∧ Below w.heap.size w w' := by
  by_cases hs : len0 ≤ 4096
  · exact small a0 len0 cap0 z0 w q0 hs
  · have hb := big w q0.rd
    rw [q0.len, decide_eq_true (by omega)] at hb
    have HB := Lib.hid hb
    clear hb
    go_enter Try.func6, Try.ntmps6
    go_wp2_with fail
    refine HB.out.mono ?_
    rintro e w1 ⟨rfl, rfl⟩
    go_wp2
    go_ret
    exact ⟨rfl, Below.refl _ _⟩
end Go.Proofs.Ytamgikcoknkghab.fnWalksW

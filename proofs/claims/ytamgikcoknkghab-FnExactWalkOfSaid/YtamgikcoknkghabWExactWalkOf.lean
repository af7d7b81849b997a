/-
  FnExactWalkOf: whatever the arguments, the program answers as the model does, leaves its arguments, and owns its answer. No condition.
-/
import Derived.Test.YtamgikcoknkghabWalkS
import Derived.Test.YtamgikcoknkghabHelpP
import Derived.Test.YtamgikcoknkghabIn
namespace Go.Proofs.Ytamgikcoknkghab.fnExactWalkOfW
open Go.RowKit Go.Proofs.Ytamgikcoknkghab.Mem Go.Proofs.Ytamgikcoknkghab.Pure Go.Proofs.Ytamgikcoknkghab.Help Go.Proofs.Ytamgikcoknkghab.FloorI Go.Proofs.Ytamgikcoknkghab.HeadI Go.Proofs.Ytamgikcoknkghab.Seq Go.Proofs.Ytamgikcoknkghab.WalkI
set_option linter.unusedVariables false

set_option maxRecDepth 100000 in
set_option maxHeartbeats 1000000 in
theorem small (a0 : Option Addr) (len0 cap0 : Nat) (z0 : List Int) (a1 : Int) (a2 : Int) (w : World) (q0 : IsRow .u8 w a0 len0 cap0 z0) (q1 : (Lit.int .i64 a1).wf = true) (q2 : (Lit.int .i64 a2).wf = true) (hs0 : len0 ≤ 1048576) :
    Calls Try.prog 7 #[.slice a0 len0 cap0, .int .i64 a1, .int .i64 a2] w fun e w' => e = .returned (.bool true) ∧ Below w.heap.size w w' := by
  have r0 := q0.rd
  have hlen0 := q0.len
  have hy0 := q0.byt
  have hy0 := q0.byt
  obtain ⟨Z0, hZ0⟩ : ∃ Z, Z = z0.take len0 := ⟨_, rfl⟩
  rw [← hZ0] at r0 hlen0 hy0
  have hL0 : Z0.length ≤ 1048576 := by omega
  have HR0 := Lib.hid r0; have HL0 := Lib.hid hL0; have HE0 := Lib.hid hlen0
  have hi1 : I64 a1 := bounds_i64 q1
  have hi2 : I64 a2 := bounds_i64 q2
  have HI := Lib.hid (fun (w' : World) (l0 h0 : Nat) (v0 : Value) (r0 : Rd w' l0 h0 v0 Z0) (q0 : h0 ≤ w'.heap.size) => WalkI.walkOf w' r0 hL0 hy0 hi1 hi2)
  have HP := Lib.hid (fun (w' : World) (l0 h0 : Nat) (v0 : Value) (r0 : Rd w' l0 h0 v0 Z0) (q0 : h0 ≤ w'.heap.size) => WalkS.walkOf w' r0 hL0 hy0 hi1 hi2)
  obtain ⟨R0, hR0⟩ : ∃ R, R = walkP Z0 a1 a2 := ⟨_, rfl⟩
  obtain ⟨R1, hR1⟩ : ∃ R, R = walkB Z0 a1 a2 := ⟨_, rfl⟩
  have HRL0 : Hid (R0.length ≤ 1048576) := by rw [hR0]; exact Nat.le_trans (walkP_length _ _ _) (by omega)
  rw [← hR0, ← hR1] at HI HP
  clear hR0 hR1 q0 q1 q2 r0 hlen0 hZ0 hL0 hy0 hi1 hi2
  go_enter Try.func7, Try.ntmps7
  go_wp2_with fail
  refine (toByteS w HR0.out HL0.out).mono ?_
  rintro e w1 ⟨v1, rfl, ho1, hb1⟩
  have HO1 := Lib.hid ho1; have HB1 := Lib.hid hb1; have HS1 := Lib.hid hb1.size; clear ho1 hb1
  go_wp2_with fail
  refine (HP.out w1 _ _ _ HO1.out.rd (Nat.le_refl _)).mono ?_
  rintro e w2 ⟨v2, rfl, ho2, hb2⟩
  have HO2 := Lib.hid ho2; have HB2 := Lib.hid hb2; have HS2 := Lib.hid hb2.size; clear ho2 hb2
  go_wp2_with fail
  refine (toByteS w2 ((HR0.out.below HB1.out).below HB2.out) HL0.out).mono ?_
  rintro e w3 ⟨v3, rfl, ho3, hb3⟩
  have HO3 := Lib.hid ho3; have HB3 := Lib.hid hb3; have HS3 := Lib.hid hb3.size; clear ho3 hb3
  go_wp2_with fail
  refine (HI.out w3 _ _ _ HO3.out.rd (Nat.le_refl _)).mono ?_
  rintro e w4 ⟨v4, rfl, ho4, hb4⟩
  have HO4 := Lib.hid ho4; have HB4 := Lib.hid hb4; have HS4 := Lib.hid hb4.size; clear ho4 hb4
  go_wp2_with fail
  refine (HelpP.eqPlaceS_same w4 HO4.out.rd ((HO2.out.below HB3.out).below HB4.out).rd).mono ?_
  rintro e w5 ⟨rfl, hb5⟩
  have HB5 := Lib.hid hb5; have HS5 := Lib.hid hb5.size; clear hb5
  go_wp2_with fail
  refine (toByteS w5 (((((HR0.out.below HB1.out).below HB2.out).below HB3.out).below HB4.out).below HB5.out) HL0.out).mono ?_
  rintro e w6 ⟨v6, rfl, ho6, hb6⟩
  have HO6 := Lib.hid ho6; have HB6 := Lib.hid hb6; have HS6 := Lib.hid hb6.size; clear ho6 hb6
  go_wp2_with fail
  refine (same w6 (((HO3.out.below HB4.out).below HB5.out).below HB6.out).rd HO6.out.rd).mono ?_
  rintro e w7 ⟨rfl, hb7⟩
  have HB7 := Lib.hid hb7; have HS7 := Lib.hid hb7.size; clear hb7
  go_wp2_with fail
  refine (markByteS w7 (s := 1) ((((HO3.out.below HB4.out).below HB5.out).below HB6.out).below HB7.out) HL0.out (by have := HL0.out; omega)).mono ?_
  rintro e w8 ⟨rfl, ho8, ht8⟩
  have HO8 := Lib.hid ho8; have HT8 := Lib.hid ht8; have HS8 := Lib.hid ht8.size; clear ho8 ht8
  go_wp2_with fail
  refine (HelpP.eqPlaceS_same w8 ((((HO4.out.below HB5.out).below HB6.out).below HB7.out).touch HT8.out (.inr (Nat.le_refl _))).rd ((((((HO2.out.below HB3.out).below HB4.out).below HB5.out).below HB6.out).below HB7.out).touch HT8.out (.inl (Nat.le_refl _))).rd).mono ?_
  rintro e w9 ⟨rfl, hb9⟩
  have HB9 := Lib.hid hb9; have HS9 := Lib.hid hb9.size; clear hb9
  go_wp2_with fail
  refine (HelpP.markPlaceS w9 (s := 1) (((((HO4.out.below HB5.out).below HB6.out).below HB7.out).touch HT8.out (.inr (Nat.le_refl _))).below HB9.out) HRL0.out (by omega)).mono ?_
  rintro e w10 ⟨rfl, ho10, ht10⟩
  have HO10 := Lib.hid ho10; have HT10 := Lib.hid ht10; have HS10 := Lib.hid ht10.size; clear ho10 ht10
  go_wp2_with fail
  refine (HelpP.heldPlaceS w10 (s := 1) HO10.out.rd HRL0.out (by omega)).mono ?_
  rintro e w11 ⟨rfl, hb11⟩
  have HB11 := Lib.hid hb11; have HS11 := Lib.hid hb11.size; clear hb11
  go_wp2_with fail
  refine (toByteS w11 (((((((((((HR0.out.below HB1.out).below HB2.out).below HB3.out).below HB4.out).below HB5.out).below HB6.out).below HB7.out).touch HT8.out (.inl (Nat.le_trans HS1.out HS2.out))).below HB9.out).touch HT10.out (.inl (Nat.le_trans (Nat.le_trans HS1.out HS2.out) HS3.out))).below HB11.out) HL0.out).mono ?_
  rintro e w12 ⟨v12, rfl, ho12, hb12⟩
  have HO12 := Lib.hid ho12; have HB12 := Lib.hid hb12; have HS12 := Lib.hid hb12.size; clear ho12 hb12
  go_wp2_with fail
  refine (HI.out w12 _ _ _ HO12.out.rd (Nat.le_refl _)).mono ?_
  rintro e w13 ⟨v13, rfl, ho13, hb13⟩
  have HO13 := Lib.hid ho13; have HB13 := Lib.hid hb13; have HS13 := Lib.hid hb13.size; clear ho13 hb13
  go_wp2_with fail
  refine (HelpP.eqPlaceS_same w13 HO13.out.rd (((((((((((HO2.out.below HB3.out).below HB4.out).below HB5.out).below HB6.out).below HB7.out).touch HT8.out (.inl (Nat.le_refl _))).below HB9.out).touch HT10.out (.inl HS3.out)).below HB11.out).below HB12.out).below HB13.out).rd).mono ?_
  rintro e w14 ⟨rfl, hb14⟩
  have HB14 := Lib.hid hb14; have HS14 := Lib.hid hb14.size; clear hb14
  go_wp2_with fail
  refine (HelpP.heldPlaceS w14 (s := 1) ((((HO10.out.below HB11.out).below HB12.out).below HB13.out).below HB14.out).rd HRL0.out (by omega)).mono ?_
  rintro e w15 ⟨rfl, hb15⟩
  have HB15 := Lib.hid hb15; have HS15 := Lib.hid hb15.size; clear hb15
  go_wp2
  go_ret
  exact ⟨rfl, (below_then (below_then (below_then (below_then (below_then (below_touch (below_then (below_touch (below_then (below_then (below_then (below_then (below_then (below_then (below_then (Below.refl _ _) HB1.out (Nat.le_refl _)) HB2.out (Nat.le_refl _)) HB3.out (Nat.le_refl _)) HB4.out (Nat.le_refl _)) HB5.out (Nat.le_refl _)) HB6.out (Nat.le_refl _)) HB7.out (Nat.le_refl _)) HT8.out (Nat.le_trans HS1.out HS2.out) (Nat.le_refl _)) HB9.out (Nat.le_refl _)) HT10.out (Nat.le_trans (Nat.le_trans HS1.out HS2.out) HS3.out) (Nat.le_refl _)) HB11.out (Nat.le_refl _)) HB12.out (Nat.le_refl _)) HB13.out (Nat.le_refl _)) HB14.out (Nat.le_refl _)) HB15.out (Nat.le_refl _))⟩

theorem big0 (a0 : Option Addr) (len0 cap0 : Nat) (z0 : List Int) (a1 : Int) (a2 : Int) (w : World)  (hb0 : 1048576 < len0) :
    Calls Try.prog 7 #[.slice a0 len0 cap0, .int .i64 a1, .int .i64 a2] w fun e w' => e = .returned (.bool true) ∧ Below w.heap.size w w' := by
  go_enter Try.func7, Try.ntmps7
  go_wp2
  go_ret
  exact ⟨rfl, Below.refl _ _⟩

theorem walk (a0 : Option Addr) (len0 cap0 : Nat) (z0 : List Int) (a1 : Int) (a2 : Int) (w : World) (q0 : IsRow .u8 w a0 len0 cap0 z0) (q1 : (Lit.int .i64 a1).wf = true) (q2 : (Lit.int .i64 a2).wf = true) :
    Calls Try.prog 7 #[.slice a0 len0 cap0, .int .i64 a1, .int .i64 a2] w fun e w' => e = .returned (.bool true) ∧ Below w.heap.size w w' := by
  by_cases hs0 : len0 ≤ 1048576
  case neg => exact big0 a0 len0 cap0 z0 a1 a2 w  (by omega)
  exact small a0 len0 cap0 z0 a1 a2 w q0 q1 q2 hs0
end Go.Proofs.Ytamgikcoknkghab.fnExactWalkOfW

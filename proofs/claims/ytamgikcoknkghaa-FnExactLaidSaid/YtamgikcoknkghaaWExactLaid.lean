/-
  FnExactLaid: whatever the arguments, the program answers as the model does, leaves its arguments, and owns its answer. No condition.
-/
import Derived.Test.YtamgikcoknkghaaFloorS
import Derived.Test.YtamgikcoknkghaaIn
namespace Go.Proofs.Ytamgikcoknkghaa.fnExactLaidW
open Go.RowKit Go.Proofs.Ytamgikcoknkghaa.Mem Go.Proofs.Ytamgikcoknkghaa.Pure Go.Proofs.Ytamgikcoknkghaa.Help Go.Proofs.Ytamgikcoknkghaa.FloorI
set_option linter.unusedVariables false

set_option maxRecDepth 100000 in
set_option maxHeartbeats 1000000 in
theorem small (a0 : Option Addr) (len0 cap0 : Nat) (z0 : List Int) (a1 : Int) (a2 : Option Addr) (len2 cap2 : Nat) (z2 : List Int) (w : World) (q0 : IsRow .u8 w a0 len0 cap0 z0) (q1 : (Lit.int .i64 a1).wf = true) (q2 : IsRow .u8 w a2 len2 cap2 z2) (hs0 : len0 ≤ 1048576) (hs2 : len2 ≤ 1048576) :
    Calls Try.prog 5 #[.slice a0 len0 cap0, .int .i64 a1, .slice a2 len2 cap2] w fun e w' => e = .returned (.bool true) ∧ Below w.heap.size w w' := by
  have r0 := q0.rd
  have hlen0 := q0.len
  obtain ⟨Z0, hZ0⟩ : ∃ Z, Z = z0.take len0 := ⟨_, rfl⟩
  rw [← hZ0] at r0 hlen0
  have hL0 : Z0.length ≤ 1048576 := by omega
  have HR0 := Lib.hid r0; have HL0 := Lib.hid hL0; have HE0 := Lib.hid hlen0
  have hi1 : I64 a1 := bounds_i64 q1
  have r2 := q2.rd
  have hlen2 := q2.len
  obtain ⟨Z2, hZ2⟩ : ∃ Z, Z = z2.take len2 := ⟨_, rfl⟩
  rw [← hZ2] at r2 hlen2
  have hL2 : Z2.length ≤ 1048576 := by omega
  have HR2 := Lib.hid r2; have HL2 := Lib.hid hL2; have HE2 := Lib.hid hlen2
  have HI := Lib.hid (fun (w' : World) (l0 h0 : Nat) (v0 : Value) (r0 : Rd w' l0 h0 v0 Z0) (q0 : h0 ≤ w'.heap.size) (l2 h2 : Nat) (v2 : Value) (r2 : Rd w' l2 h2 v2 Z2) (q2 : h2 ≤ w'.heap.size) => FloorI.laid w' r0 r2 hL0 hL2 hi1)
  have HP := Lib.hid (fun (w' : World) (l0 h0 : Nat) (v0 : Value) (r0 : Rd w' l0 h0 v0 Z0) (q0 : h0 ≤ w'.heap.size) (l2 h2 : Nat) (v2 : Value) (r2 : Rd w' l2 h2 v2 Z2) (q2 : h2 ≤ w'.heap.size) => FloorS.laid w' r0 r2 q2 hL0 hL2 hi1)
  obtain ⟨R0, hR0⟩ : ∃ R, R = laidL Z0 a1 Z2 := ⟨_, rfl⟩
  obtain ⟨R1, hR1⟩ : ∃ R, R = there Z0 a1 (Z2.length : Int) := ⟨_, rfl⟩
  have HRL0 : Hid (R0.length ≤ 1048576) := by rw [hR0]; exact Nat.le_trans (Nat.le_of_eq (laidL_length _ _ _)) hL0
  rw [← hR0, ← hR1] at HI HP
  clear hR0 hR1 q0 q1 q2 r0 hlen0 hZ0 hL0 r2 hlen2 hZ2 hL2 hi1
  go_enter Try.func5, Try.ntmps5
  go_wp2_with fail
  refine (toByteS w HR0.out HL0.out).mono ?_
  rintro e w1 ⟨v1, rfl, ho1, hb1⟩
  have HO1 := Lib.hid ho1; have HB1 := Lib.hid hb1; have HS1 := Lib.hid hb1.size; clear ho1 hb1
  go_wp2_with fail
  refine (toByteS w1 (HR2.out.below HB1.out) HL2.out).mono ?_
  rintro e w2 ⟨v2, rfl, ho2, hb2⟩
  have HO2 := Lib.hid ho2; have HB2 := Lib.hid hb2; have HS2 := Lib.hid hb2.size; clear ho2 hb2
  go_wp2_with fail
  refine (HP.out w2 _ _ _ (HO1.out.below HB2.out).rd HS2.out _ _ _ HO2.out.rd (Nat.le_refl _)).mono ?_
  rintro e w3 ⟨v3, rfl, ho3, hb3⟩
  have HO3 := Lib.hid ho3; have HB3 := Lib.hid hb3; have HS3 := Lib.hid hb3.size; clear ho3 hb3
  go_wp2_with fail
  refine (toByteS w3 (((HR0.out.below HB1.out).below HB2.out).below HB3.out) HL0.out).mono ?_
  rintro e w4 ⟨v4, rfl, ho4, hb4⟩
  have HO4 := Lib.hid ho4; have HB4 := Lib.hid hb4; have HS4 := Lib.hid hb4.size; clear ho4 hb4
  go_wp2_with fail
  refine (toByteS w4 ((((HR2.out.below HB1.out).below HB2.out).below HB3.out).below HB4.out) HL2.out).mono ?_
  rintro e w5 ⟨v5, rfl, ho5, hb5⟩
  have HO5 := Lib.hid ho5; have HB5 := Lib.hid hb5; have HS5 := Lib.hid hb5.size; clear ho5 hb5
  go_wp2_with fail
  refine (HI.out w5 _ _ _ (HO4.out.below HB5.out).rd HS5.out _ _ _ HO5.out.rd (Nat.le_refl _)).mono ?_
  rintro e w6 ⟨v6, rfl, ho6, hb6⟩
  have HO6 := Lib.hid ho6; have HB6 := Lib.hid hb6; have HS6 := Lib.hid hb6.size; clear ho6 hb6
  go_wp2_with fail
  refine (same w6 HO6.out.rd (((HO3.out.below HB4.out).below HB5.out).below HB6.out).rd).mono ?_
  rintro e w7 ⟨rfl, hb7⟩
  have HB7 := Lib.hid hb7; have HS7 := Lib.hid hb7.size; clear hb7
  go_wp2_with fail
  refine (toByteS w7 (((((((HR0.out.below HB1.out).below HB2.out).below HB3.out).below HB4.out).below HB5.out).below HB6.out).below HB7.out) HL0.out).mono ?_
  rintro e w8 ⟨v8, rfl, ho8, hb8⟩
  have HO8 := Lib.hid ho8; have HB8 := Lib.hid hb8; have HS8 := Lib.hid hb8.size; clear ho8 hb8
  go_wp2_with fail
  refine (same w8 ((((HO4.out.below HB5.out).below HB6.out).below HB7.out).below HB8.out).rd HO8.out.rd).mono ?_
  rintro e w9 ⟨rfl, hb9⟩
  have HB9 := Lib.hid hb9; have HS9 := Lib.hid hb9.size; clear hb9
  go_wp2_with fail
  refine (toByteS w9 (((((((((HR2.out.below HB1.out).below HB2.out).below HB3.out).below HB4.out).below HB5.out).below HB6.out).below HB7.out).below HB8.out).below HB9.out) HL2.out).mono ?_
  rintro e w10 ⟨v10, rfl, ho10, hb10⟩
  have HO10 := Lib.hid ho10; have HB10 := Lib.hid hb10; have HS10 := Lib.hid hb10.size; clear ho10 hb10
  go_wp2_with fail
  refine (same w10 (((((HO5.out.below HB6.out).below HB7.out).below HB8.out).below HB9.out).below HB10.out).rd HO10.out.rd).mono ?_
  rintro e w11 ⟨rfl, hb11⟩
  have HB11 := Lib.hid hb11; have HS11 := Lib.hid hb11.size; clear hb11
  go_wp2_with fail
  refine (markByteS w11 (s := 1) (((((((HO4.out.below HB5.out).below HB6.out).below HB7.out).below HB8.out).below HB9.out).below HB10.out).below HB11.out) HL0.out (by have := HL0.out; have := HL2.out; omega)).mono ?_
  rintro e w12 ⟨rfl, ho12, ht12⟩
  have HO12 := Lib.hid ho12; have HT12 := Lib.hid ht12; have HS12 := Lib.hid ht12.size; clear ho12 ht12
  go_wp2_with fail
  refine (markByteS w12 (s := (1 + Z0.length)) (((((((HO5.out.below HB6.out).below HB7.out).below HB8.out).below HB9.out).below HB10.out).below HB11.out).touch HT12.out (.inr (Nat.le_refl _))) HL2.out (by have := HL0.out; have := HL2.out; omega)).mono ?_
  rintro e w13 ⟨rfl, ho13, ht13⟩
  have HO13 := Lib.hid ho13; have HT13 := Lib.hid ht13; have HS13 := Lib.hid ht13.size; clear ho13 ht13
  go_wp2_with fail
  refine (same w13 (((((((HO6.out.below HB7.out).below HB8.out).below HB9.out).below HB10.out).below HB11.out).touch HT12.out (.inr HS5.out)).touch HT13.out (.inr (Nat.le_refl _))).rd ((((((((((HO3.out.below HB4.out).below HB5.out).below HB6.out).below HB7.out).below HB8.out).below HB9.out).below HB10.out).below HB11.out).touch HT12.out (.inl (Nat.le_refl _))).touch HT13.out (.inl HS4.out)).rd).mono ?_
  rintro e w14 ⟨rfl, hb14⟩
  have HB14 := Lib.hid hb14; have HS14 := Lib.hid hb14.size; clear hb14
  go_wp2_with fail
  refine (markByteS w14 (s := 1) ((((((((HO6.out.below HB7.out).below HB8.out).below HB9.out).below HB10.out).below HB11.out).touch HT12.out (.inr HS5.out)).touch HT13.out (.inr (Nat.le_refl _))).below HB14.out) HRL0.out (by omega)).mono ?_
  rintro e w15 ⟨rfl, ho15, ht15⟩
  have HO15 := Lib.hid ho15; have HT15 := Lib.hid ht15; have HS15 := Lib.hid ht15.size; clear ho15 ht15
  go_wp2_with fail
  refine (heldByteS w15 (s := 1) HO15.out.rd HRL0.out (by omega)).mono ?_
  rintro e w16 ⟨rfl, hb16⟩
  have HB16 := Lib.hid hb16; have HS16 := Lib.hid hb16.size; clear hb16
  go_wp2_with fail
  refine (toByteS w16 ((((((((((((((((HR0.out.below HB1.out).below HB2.out).below HB3.out).below HB4.out).below HB5.out).below HB6.out).below HB7.out).below HB8.out).below HB9.out).below HB10.out).below HB11.out).touch HT12.out (.inl (Nat.le_trans (Nat.le_trans HS1.out HS2.out) HS3.out))).touch HT13.out (.inl (Nat.le_trans (Nat.le_trans (Nat.le_trans HS1.out HS2.out) HS3.out) HS4.out))).below HB14.out).touch HT15.out (.inl (Nat.le_trans (Nat.le_trans (Nat.le_trans (Nat.le_trans HS1.out HS2.out) HS3.out) HS4.out) HS5.out))).below HB16.out) HL0.out).mono ?_
  rintro e w17 ⟨v17, rfl, ho17, hb17⟩
  have HO17 := Lib.hid ho17; have HB17 := Lib.hid hb17; have HS17 := Lib.hid hb17.size; clear ho17 hb17
  go_wp2_with fail
  refine (toByteS w17 (((((((((((((((((HR2.out.below HB1.out).below HB2.out).below HB3.out).below HB4.out).below HB5.out).below HB6.out).below HB7.out).below HB8.out).below HB9.out).below HB10.out).below HB11.out).touch HT12.out (.inl (Nat.le_trans (Nat.le_trans HS1.out HS2.out) HS3.out))).touch HT13.out (.inl (Nat.le_trans (Nat.le_trans (Nat.le_trans HS1.out HS2.out) HS3.out) HS4.out))).below HB14.out).touch HT15.out (.inl (Nat.le_trans (Nat.le_trans (Nat.le_trans (Nat.le_trans HS1.out HS2.out) HS3.out) HS4.out) HS5.out))).below HB16.out).below HB17.out) HL2.out).mono ?_
  rintro e w18 ⟨v18, rfl, ho18, hb18⟩
  have HO18 := Lib.hid ho18; have HB18 := Lib.hid hb18; have HS18 := Lib.hid hb18.size; clear ho18 hb18
  go_wp2_with fail
  refine (HI.out w18 _ _ _ (HO17.out.below HB18.out).rd HS18.out _ _ _ HO18.out.rd (Nat.le_refl _)).mono ?_
  rintro e w19 ⟨v19, rfl, ho19, hb19⟩
  have HO19 := Lib.hid ho19; have HB19 := Lib.hid hb19; have HS19 := Lib.hid hb19.size; clear ho19 hb19
  go_wp2_with fail
  refine (same w19 HO19.out.rd ((((((((((((((((HO3.out.below HB4.out).below HB5.out).below HB6.out).below HB7.out).below HB8.out).below HB9.out).below HB10.out).below HB11.out).touch HT12.out (.inl (Nat.le_refl _))).touch HT13.out (.inl HS4.out)).below HB14.out).touch HT15.out (.inl (Nat.le_trans HS4.out HS5.out))).below HB16.out).below HB17.out).below HB18.out).below HB19.out).rd).mono ?_
  rintro e w20 ⟨rfl, hb20⟩
  have HB20 := Lib.hid hb20; have HS20 := Lib.hid hb20.size; clear hb20
  go_wp2_with fail
  refine (heldByteS w20 (s := 1) (((((HO15.out.below HB16.out).below HB17.out).below HB18.out).below HB19.out).below HB20.out).rd HRL0.out (by omega)).mono ?_
  rintro e w21 ⟨rfl, hb21⟩
  have HB21 := Lib.hid hb21; have HS21 := Lib.hid hb21.size; clear hb21
  go_wp2
  go_ret
  exact ⟨rfl, (below_then (below_then (below_then (below_then (below_then (below_then (below_touch (below_then (below_touch (below_touch (below_then (below_then (below_then (below_then (below_then (below_then (below_then (below_then (below_then (below_then (below_then (Below.refl _ _) HB1.out (Nat.le_refl _)) HB2.out (Nat.le_refl _)) HB3.out (Nat.le_refl _)) HB4.out (Nat.le_refl _)) HB5.out (Nat.le_refl _)) HB6.out (Nat.le_refl _)) HB7.out (Nat.le_refl _)) HB8.out (Nat.le_refl _)) HB9.out (Nat.le_refl _)) HB10.out (Nat.le_refl _)) HB11.out (Nat.le_refl _)) HT12.out (Nat.le_trans (Nat.le_trans HS1.out HS2.out) HS3.out) (Nat.le_refl _)) HT13.out (Nat.le_trans (Nat.le_trans (Nat.le_trans HS1.out HS2.out) HS3.out) HS4.out) (Nat.le_refl _)) HB14.out (Nat.le_refl _)) HT15.out (Nat.le_trans (Nat.le_trans (Nat.le_trans (Nat.le_trans HS1.out HS2.out) HS3.out) HS4.out) HS5.out) (Nat.le_refl _)) HB16.out (Nat.le_refl _)) HB17.out (Nat.le_refl _)) HB18.out (Nat.le_refl _)) HB19.out (Nat.le_refl _)) HB20.out (Nat.le_refl _)) HB21.out (Nat.le_refl _))⟩

theorem big0 (a0 : Option Addr) (len0 cap0 : Nat) (z0 : List Int) (a1 : Int) (a2 : Option Addr) (len2 cap2 : Nat) (z2 : List Int) (w : World)  (hb0 : 1048576 < len0) :
    Calls Try.prog 5 #[.slice a0 len0 cap0, .int .i64 a1, .slice a2 len2 cap2] w fun e w' => e = .returned (.bool true) ∧ Below w.heap.size w w' := by
  go_enter Try.func5, Try.ntmps5
  go_wp2
  go_ret
  exact ⟨rfl, Below.refl _ _⟩

theorem big2 (a0 : Option Addr) (len0 cap0 : Nat) (z0 : List Int) (a1 : Int) (a2 : Option Addr) (len2 cap2 : Nat) (z2 : List Int) (w : World) (hs0 : len0 ≤ 1048576) (hb2 : 1048576 < len2) :
    Calls Try.prog 5 #[.slice a0 len0 cap0, .int .i64 a1, .slice a2 len2 cap2] w fun e w' => e = .returned (.bool true) ∧ Below w.heap.size w w' := by
  go_enter Try.func5, Try.ntmps5
  go_wp2
  go_ret
  exact ⟨rfl, Below.refl _ _⟩

theorem walk (a0 : Option Addr) (len0 cap0 : Nat) (z0 : List Int) (a1 : Int) (a2 : Option Addr) (len2 cap2 : Nat) (z2 : List Int) (w : World) (q0 : IsRow .u8 w a0 len0 cap0 z0) (q1 : (Lit.int .i64 a1).wf = true) (q2 : IsRow .u8 w a2 len2 cap2 z2) :
    Calls Try.prog 5 #[.slice a0 len0 cap0, .int .i64 a1, .slice a2 len2 cap2] w fun e w' => e = .returned (.bool true) ∧ Below w.heap.size w w' := by
  by_cases hs0 : len0 ≤ 1048576
  case neg => exact big0 a0 len0 cap0 z0 a1 a2 len2 cap2 z2 w  (by omega)
  by_cases hs2 : len2 ≤ 1048576
  case neg => exact big2 a0 len0 cap0 z0 a1 a2 len2 cap2 z2 w hs0 (by omega)
  exact small a0 len0 cap0 z0 a1 a2 len2 cap2 z2 w q0 q1 q2 hs0 hs2
end Go.Proofs.Ytamgikcoknkghaa.fnExactLaidW

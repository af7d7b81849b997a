/-
  FnExactBareIn: whatever the floor and the numbers, the program answers as the model does, and leaves its argument. No condition.
-/
import Derived.Test.YtamgikcoknkghabBareS
import Derived.Test.YtamgikcoknkghabIn
namespace Go.Proofs.Ytamgikcoknkghab.fnExactBareInW
open Go.RowKit Go.Proofs.Ytamgikcoknkghab.Mem Go.Proofs.Ytamgikcoknkghab.Pure Go.Proofs.Ytamgikcoknkghab.Help Go.Proofs.Ytamgikcoknkghab.FloorI
set_option linter.unusedVariables false

set_option maxRecDepth 100000 in
set_option maxHeartbeats 1000000 in
theorem small (a0 : Option Addr) (len0 cap0 : Nat) (z0 : List Int) (a1 a2 : Int) (w : World) (q0 : IsRow .u8 w a0 len0 cap0 z0) (q1 : (Lit.int .i64 a1).wf = true) (q2 : (Lit.int .i64 a2).wf = true) (hs0 : len0 ≤ 1048576) :
    Calls Try.prog 8 #[.slice a0 len0 cap0, .int .i64 a1, .int .i64 a2] w fun e w' => e = .returned (.bool true) ∧ Below w.heap.size w w' := by
  have r0 := q0.rd
  have hlen0 := q0.len
  obtain ⟨Z0, hZ0⟩ : ∃ Z, Z = z0.take len0 := ⟨_, rfl⟩
  rw [← hZ0] at r0 hlen0
  have hL0 : Z0.length ≤ 1048576 := by omega
  have hi1 : I64 a1 := bounds_i64 q1
  have hi2 : I64 a2 := bounds_i64 q2
  have HR0 := Lib.hid r0; have HL0 := Lib.hid hL0; have HE0 := Lib.hid hlen0
  have HI := Lib.hid (fun (w' : World) (l0 h0 : Nat) (v0 : Value) (r0 : Rd w' l0 h0 v0 Z0) => BareI.bareIn w' r0 hL0 hi1 hi2)
  have HP := Lib.hid (fun (w' : World) (l0 h0 : Nat) (v0 : Value) (r0 : Rd w' l0 h0 v0 Z0) => BareS.bareIn w' r0 hL0 hi1 hi2)
  obtain ⟨X, hX⟩ : ∃ X, X = bareB Z0 a1 a2 := ⟨_, rfl⟩
  rw [← hX] at HI HP
  clear hX q0 q1 q2 r0 hlen0 hZ0 hL0 hi1 hi2
  go_enter Try.func8, Try.ntmps8
  go_wp2_with fail
  refine (toByteS w HR0.out HL0.out).mono ?_
  rintro e w1 ⟨v1, rfl, ho1, hb1⟩
  have HO1 := Lib.hid ho1; have HB1 := Lib.hid hb1; have HS1 := Lib.hid hb1.size; clear ho1 hb1
  go_wp2_with fail
  refine (HP.out w1 _ _ _ HO1.out.rd).mono ?_
  rintro e w2 ⟨rfl, hb2⟩
  have HB2 := Lib.hid hb2; have HS2 := Lib.hid hb2.size; clear hb2
  go_wp2_with fail
  refine (toByteS _ ((HR0.out.below HB1.out).below HB2.out) HL0.out).mono ?_
  rintro e w3 ⟨v3, rfl, ho3, hb3⟩
  have HO3 := Lib.hid ho3; have HB3 := Lib.hid hb3; have HS3 := Lib.hid hb3.size; clear ho3 hb3
  go_wp2_with fail
  refine (HI.out w3 _ _ _ HO3.out.rd).mono ?_
  rintro e w4 ⟨rfl, hb4⟩
  have HB4 := Lib.hid hb4; have HS4 := Lib.hid hb4.size; clear hb4
  cases X
  · go_wp2_with fail
    refine (toByteS w4 ((((HR0.out.below HB1.out).below HB2.out).below HB3.out).below HB4.out) HL0.out).mono ?_
    rintro e w5 ⟨v5, rfl, ho5, hb5⟩
    have HO5 := Lib.hid ho5; have HB5 := Lib.hid hb5; clear ho5 hb5
    go_wp2_with fail
    refine (same w5 ((HO3.out.below HB4.out).below HB5.out).rd HO5.out.rd).mono ?_
    rintro e w6 ⟨rfl, hb6⟩
    have HB6 := Lib.hid hb6; clear hb6
    go_wp2
    go_ret
    exact ⟨rfl, (below_then (below_then (below_then (below_then (below_then (below_then (Below.refl _ _) HB1.out (Nat.le_refl _)) HB2.out (Nat.le_refl _)) HB3.out (Nat.le_refl _)) HB4.out (Nat.le_refl _)) HB5.out (Nat.le_refl _)) HB6.out (Nat.le_refl _))⟩
  · go_wp2_with fail
    refine (toByteS w4 ((((HR0.out.below HB1.out).below HB2.out).below HB3.out).below HB4.out) HL0.out).mono ?_
    rintro e w5 ⟨v5, rfl, ho5, hb5⟩
    have HO5 := Lib.hid ho5; have HB5 := Lib.hid hb5; clear ho5 hb5
    go_wp2_with fail
    refine (same w5 ((HO3.out.below HB4.out).below HB5.out).rd HO5.out.rd).mono ?_
    rintro e w6 ⟨rfl, hb6⟩
    have HB6 := Lib.hid hb6; clear hb6
    go_wp2
    go_ret
    exact ⟨rfl, (below_then (below_then (below_then (below_then (below_then (below_then (Below.refl _ _) HB1.out (Nat.le_refl _)) HB2.out (Nat.le_refl _)) HB3.out (Nat.le_refl _)) HB4.out (Nat.le_refl _)) HB5.out (Nat.le_refl _)) HB6.out (Nat.le_refl _))⟩

theorem big0 (a0 : Option Addr) (len0 cap0 : Nat) (z0 : List Int) (a1 a2 : Int) (w : World) (hb0 : 1048576 < len0) :
    Calls Try.prog 8 #[.slice a0 len0 cap0, .int .i64 a1, .int .i64 a2] w fun e w' => e = .returned (.bool true) ∧ Below w.heap.size w w' := by
  go_enter Try.func8, Try.ntmps8
  go_wp2
  go_ret
  exact ⟨rfl, Below.refl _ _⟩

theorem walk (a0 : Option Addr) (len0 cap0 : Nat) (z0 : List Int) (a1 a2 : Int) (w : World) (q0 : IsRow .u8 w a0 len0 cap0 z0) (q1 : (Lit.int .i64 a1).wf = true) (q2 : (Lit.int .i64 a2).wf = true) :
    Calls Try.prog 8 #[.slice a0 len0 cap0, .int .i64 a1, .int .i64 a2] w fun e w' => e = .returned (.bool true) ∧ Below w.heap.size w w' := by
  by_cases hs0 : len0 ≤ 1048576
  case neg => exact big0 a0 len0 cap0 z0 a1 a2 w (by omega)
  exact small a0 len0 cap0 z0 a1 a2 w q0 q1 q2 hs0
end Go.Proofs.Ytamgikcoknkghab.fnExactBareInW

/-
  FnExactHeadAt: whatever the floor and the place, the program answers as the model does, and leaves its argument. No condition.
-/
import Derived.Test.YtamgikcoknkghabHeadSA
import Derived.Test.YtamgikcoknkghabIn
namespace Go.Proofs.Ytamgikcoknkghab.fnExactHeadAtW
open Go.RowKit Go.Proofs.Ytamgikcoknkghab.Mem Go.Proofs.Ytamgikcoknkghab.Pure Go.Proofs.Ytamgikcoknkghab.Help Go.Proofs.Ytamgikcoknkghab.FloorI Go.Proofs.Ytamgikcoknkghab.HeadI
set_option linter.unusedVariables false

set_option maxRecDepth 100000 in
set_option maxHeartbeats 1000000 in
theorem small (a0 : Option Addr) (len0 cap0 : Nat) (z0 : List Int) (a1 : Int) (w : World) (q0 : IsRow .u8 w a0 len0 cap0 z0) (q1 : (Lit.int .i64 a1).wf = true) (hs0 : len0 ≤ 1048576) :
    Calls Try.prog 5 #[.slice a0 len0 cap0, .int .i64 a1] w fun e w' => e = .returned (.bool true) ∧ Below w.heap.size w w' := by
  have r0 := q0.rd
  have hlen0 := q0.len
  have hy0 := q0.byt
  obtain ⟨Z0, hZ0⟩ : ∃ Z, Z = z0.take len0 := ⟨_, rfl⟩
  rw [← hZ0] at r0 hlen0 hy0
  have hL0 : Z0.length ≤ 1048576 := by omega
  have hi1 : I64 a1 := bounds_i64 q1
  have HR0 := Lib.hid r0; have HL0 := Lib.hid hL0; have HE0 := Lib.hid hlen0
  have HI := Lib.hid (fun (w' : World) (l0 h0 : Nat) (v0 : Value) (r0 : Rd w' l0 h0 v0 Z0) => HeadI.headAt w' r0 hL0 hy0 hi1)
  have HP := Lib.hid (fun (w' : World) (l0 h0 : Nat) (v0 : Value) (r0 : Rd w' l0 h0 v0 Z0) => HeadS.headAt w' r0 hL0 hy0 hi1)
  obtain ⟨D, hD⟩ : ∃ D, D = headAtH Z0 a1 := ⟨_, rfl⟩
  obtain ⟨X, hX⟩ : ∃ X, X = headAtB Z0 a1 := ⟨_, rfl⟩
  rw [← hD, ← hX] at HI HP
  clear hD hX q0 q1 r0 hlen0 hZ0 hL0 hi1 hy0
  obtain ⟨s, o, l, r⟩ := D
  go_enter Try.func5, Try.ntmps5
  go_wp2_with fail
  refine (toByteS w HR0.out HL0.out).mono ?_
  rintro e w1 ⟨v1, rfl, ho1, hb1⟩
  have HO1 := Lib.hid ho1; have HB1 := Lib.hid hb1; have HS1 := Lib.hid hb1.size; clear ho1 hb1
  go_wp2_with fail
  refine (HP.out w1 _ _ _ HO1.out.rd).mono ?_
  rintro e w2 ⟨rfl, hb2⟩
  have HB2 := Lib.hid hb2; have HS2 := Lib.hid hb2.size; clear hb2
  have hn2 : Below w2.heap.size w2 (w2.alloc (.cells #[.int .i64 s, .int .i64 o, .int .i64 l, .int .i64 r] 25)) := (Below.refl _ _).alloc (Nat.le_refl _) _
  have HN2 := Lib.hid hn2; clear hn2
  go_wp2_with fail
  refine (toByteS _ (((HR0.out.below HB1.out).below HB2.out).below HN2.out) HL0.out).mono ?_
  rintro e w3 ⟨v3, rfl, ho3, hb3⟩
  have HY : Hid (Blk w3 w2.heap.size #[.int .i64 s, .int .i64 o, .int .i64 l, .int .i64 r] 25) := Lib.hid ((Blk.new w2 _ _).below hb3)
  have HO3 := Lib.hid (ho3.more (show w2.heap.size ≤ _ from HN2.out.size) (Nat.le_refl _))
  have HB3 : Hid (Below w2.heap.size w2 w3) := Lib.hid (below_then HN2.out hb3 (Nat.le_refl _)); have HS3 := Lib.hid HB3.out.size; clear ho3 hb3
  go_wp2_with fail
  refine (HI.out w3 _ _ _ HO3.out.rd).mono ?_
  rintro e w4 ⟨rfl, hb4⟩
  have HB4 := Lib.hid hb4; have HS4 := Lib.hid hb4.size; clear hb4
  obtain ⟨c0, c1, c2, c3⟩ := (HY.out.below HB4.out).cells4
  have hn4 : Below w4.heap.size w4 (w4.alloc (.cells #[.int .i64 s, .int .i64 o, .int .i64 l, .int .i64 r] 25)) := (Below.refl _ _).alloc (Nat.le_refl _) _
  have HN4 := Lib.hid hn4; clear hn4
  have HLT : Hid (w2.heap.size < w4.heap.size) := Lib.hid (HY.out.below HB4.out).lt
  have hlt := HLT.out
  go_wp2_with fail
  refine (HeadS.eqHead_same _).mono ?_
  rintro e w5 ⟨rfl, hb5⟩
  have HB5 : Hid (Below w4.heap.size w4 w5) := Lib.hid (below_then HN4.out hb5 (Nat.le_refl _)); have HS5 := Lib.hid HB5.out.size; clear hb5 c0 c1 c2 c3 hlt
  cases X
  · go_wp2_with fail
    refine (toByteS w5 (((((HR0.out.below HB1.out).below HB2.out).below HB3.out).below HB4.out).below HB5.out) HL0.out).mono ?_
    rintro e w6 ⟨v6, rfl, ho6, hb6⟩
    have HO6 := Lib.hid ho6; have HB6 := Lib.hid hb6; have HS6 := Lib.hid hb6.size; clear ho6 hb6
    go_wp2_with fail
    refine (same w6 (((HO3.out.below HB4.out).below HB5.out).below HB6.out).rd HO6.out.rd).mono ?_
    rintro e w7 ⟨rfl, hb7⟩
    have HB7 := Lib.hid hb7; have HS7 := Lib.hid hb7.size; clear hb7
    go_wp2
    go_ret
    exact ⟨rfl, (below_then (below_then (below_then (below_then (below_then (below_then (below_then (Below.refl _ _) HB1.out (Nat.le_refl _)) HB2.out (Nat.le_refl _)) HB3.out (Nat.le_refl _)) HB4.out (Nat.le_refl _)) HB5.out (Nat.le_refl _)) HB6.out (Nat.le_refl _)) HB7.out (Nat.le_refl _))⟩
  · go_wp2_with fail
    refine (toByteS w5 (((((HR0.out.below HB1.out).below HB2.out).below HB3.out).below HB4.out).below HB5.out) HL0.out).mono ?_
    rintro e w6 ⟨v6, rfl, ho6, hb6⟩
    have HO6 := Lib.hid ho6; have HB6 := Lib.hid hb6; have HS6 := Lib.hid hb6.size; clear ho6 hb6
    go_wp2_with fail
    refine (same w6 (((HO3.out.below HB4.out).below HB5.out).below HB6.out).rd HO6.out.rd).mono ?_
    rintro e w7 ⟨rfl, hb7⟩
    have HB7 := Lib.hid hb7; have HS7 := Lib.hid hb7.size; clear hb7
    go_wp2
    go_ret
    exact ⟨rfl, (below_then (below_then (below_then (below_then (below_then (below_then (below_then (Below.refl _ _) HB1.out (Nat.le_refl _)) HB2.out (Nat.le_refl _)) HB3.out (Nat.le_refl _)) HB4.out (Nat.le_refl _)) HB5.out (Nat.le_refl _)) HB6.out (Nat.le_refl _)) HB7.out (Nat.le_refl _))⟩

theorem big0 (a0 : Option Addr) (len0 cap0 : Nat) (z0 : List Int) (a1 : Int) (w : World) (hb0 : 1048576 < len0) :
    Calls Try.prog 5 #[.slice a0 len0 cap0, .int .i64 a1] w fun e w' => e = .returned (.bool true) ∧ Below w.heap.size w w' := by
  go_enter Try.func5, Try.ntmps5
  go_wp2
  go_ret
  exact ⟨rfl, Below.refl _ _⟩

theorem walk (a0 : Option Addr) (len0 cap0 : Nat) (z0 : List Int) (a1 : Int) (w : World) (q0 : IsRow .u8 w a0 len0 cap0 z0) (q1 : (Lit.int .i64 a1).wf = true) :
    Calls Try.prog 5 #[.slice a0 len0 cap0, .int .i64 a1] w fun e w' => e = .returned (.bool true) ∧ Below w.heap.size w w' := by
  by_cases hs0 : len0 ≤ 1048576
  case neg => exact big0 a0 len0 cap0 z0 a1 w (by omega)
  exact small a0 len0 cap0 z0 a1 w q0 q1 hs0
end Go.Proofs.Ytamgikcoknkghab.fnExactHeadAtW

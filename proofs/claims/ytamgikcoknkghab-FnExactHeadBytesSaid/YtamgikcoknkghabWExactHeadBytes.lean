/-
  FnExactHeadBytes: whatever the head, the program answers as the model does, and owns its answer. No condition.
-/
import Derived.Test.YtamgikcoknkghabHeadS
namespace Go.Proofs.Ytamgikcoknkghab.fnExactHeadBytesW
open Go.RowKit Go.Proofs.Ytamgikcoknkghab.Mem Go.Proofs.Ytamgikcoknkghab.Pure Go.Proofs.Ytamgikcoknkghab.Help Go.Proofs.Ytamgikcoknkghab.FloorI Go.Proofs.Ytamgikcoknkghab.HeadI
set_option linter.unusedVariables false

set_option maxRecDepth 100000 in
set_option maxHeartbeats 1000000 in
theorem walk (s o l r : Int) (w : World) :
    Calls Try.prog 4 #[.agg #[.int .i64 s, .int .i64 o, .int .i64 l, .int .i64 r]] w fun e w' => e = .returned (.bool true) ∧ Below w.heap.size w w' := by
  have HI := Lib.hid (fun w' : World => HeadI.headBytes w' (s := s) (o := o) (l := l) (r := r))
  have HP := Lib.hid (fun w' : World => HeadS.headBytes w' (s := s) (o := o) (l := l) (r := r))
  have hlen := headL_length s o l r
  obtain ⟨R0, hR⟩ : ∃ X, X = headL s o l r := ⟨_, rfl⟩
  rw [← hR] at HI HP hlen
  have HRL0 : Hid (R0.length ≤ 1048576) := Lib.hid (by omega)
  clear hR hlen
  go_enter Try.func4, Try.ntmps4
  go_wp2_with fail
  refine (HeadS.toHead _).mono ?_
  rintro e w1 ⟨rfl, hb1⟩
  have HZ : Hid (Blk w1 w.heap.size #[.int .i64 s, .int .i64 o, .int .i64 l, .int .i64 r] 23) := Lib.hid ((Blk.new w _ _).below hb1)
  have HB1 : Hid (Below w.heap.size w w1) := Lib.hid (((Below.refl _ _).alloc (Nat.le_refl _) _).trans (hb1.mono (by simp)))
  have HS1 := Lib.hid HB1.out.size; clear hb1
  have HLT : Hid (w.heap.size < w1.heap.size) := Lib.hid HZ.out.lt
  go_wp2_with fail
  refine (HP.out _).mono ?_
  rintro e w2 ⟨v2, rfl, ho2, hb2⟩
  have HO2 := Lib.hid ho2; have HB2 := Lib.hid hb2; have HS2 := Lib.hid hb2.size; clear ho2 hb2
  obtain ⟨c0, c1, c2, c3⟩ := (HZ.out.below HB2.out).cells4
  go_wp2_with fail
  refine (HeadS.toHead _).mono ?_
  rintro e w3 ⟨rfl, hb3⟩
  have HB3 := Lib.hid hb3; have HS3 := Lib.hid hb3.size; clear hb3 c0 c1 c2 c3
  go_wp2_with fail
  refine (HI.out _).mono ?_
  rintro e w4 ⟨v4, rfl, ho4, hb4⟩
  have HO4 := Lib.hid ho4; have HB4 := Lib.hid hb4; have HS4 := Lib.hid hb4.size; clear ho4 hb4
  go_wp2_with fail
  refine (same w4 HO4.out.rd ((HO2.out.below HB3.out).below HB4.out).rd).mono ?_
  rintro e w5 ⟨rfl, hb5⟩
  have HB5 := Lib.hid hb5; have HS5 := Lib.hid hb5.size; clear hb5
  go_wp2_with fail
  refine (markByteS w5 (s := 1) (HO4.out.below HB5.out) HRL0.out (by omega)).mono ?_
  rintro e w6 ⟨rfl, ho6, ht6⟩
  have HO6 := Lib.hid ho6; have HT6 := Lib.hid ht6; have HS6 := Lib.hid ht6.size; clear ho6 ht6
  go_wp2_with fail
  refine (heldByteS w6 (s := 1) HO6.out.rd HRL0.out (by omega)).mono ?_
  rintro e w7 ⟨rfl, hb7⟩
  have HB7 := Lib.hid hb7; have HS7 := Lib.hid hb7.size; clear hb7
  obtain ⟨c0, c1, c2, c3⟩ := ((((((HZ.out.below HB2.out).below HB3.out).below HB4.out).below HB5.out).touch HT6.out (.inl (Nat.lt_of_lt_of_le HLT.out (Nat.le_trans HS2.out HS3.out)))).below HB7.out).cells4
  go_wp2_with fail
  refine (HeadS.toHead _).mono ?_
  rintro e w8 ⟨rfl, hb8⟩
  have HB8 := Lib.hid hb8; have HS8 := Lib.hid hb8.size; clear hb8 c0 c1 c2 c3
  go_wp2_with fail
  refine (HI.out _).mono ?_
  rintro e w9 ⟨v9, rfl, ho9, hb9⟩
  have HO9 := Lib.hid ho9; have HB9 := Lib.hid hb9; have HS9 := Lib.hid hb9.size; clear ho9 hb9
  go_wp2_with fail
  refine (same w9 HO9.out.rd (((((((HO2.out.below HB3.out).below HB4.out).below HB5.out).touch HT6.out (.inl HS3.out)).below HB7.out).below HB8.out).below HB9.out).rd).mono ?_
  rintro e w10 ⟨rfl, hb10⟩
  have HB10 := Lib.hid hb10; have HS10 := Lib.hid hb10.size; clear hb10
  go_wp2_with fail
  refine (heldByteS w10 (s := 1) ((((HO6.out.below HB7.out).below HB8.out).below HB9.out).below HB10.out).rd HRL0.out (by omega)).mono ?_
  rintro e w11 ⟨rfl, hb11⟩
  have HB11 := Lib.hid hb11; have HS11 := Lib.hid hb11.size; clear hb11
  go_wp2
  go_ret
  exact ⟨rfl, (below_then (below_then (below_then (below_then (below_then (below_touch (below_then (below_then (below_then (below_then (below_then (Below.refl _ _) HB1.out (Nat.le_refl _)) HB2.out (Nat.le_refl _)) HB3.out (Nat.le_refl _)) HB4.out (Nat.le_refl _)) HB5.out (Nat.le_refl _)) HT6.out (Nat.le_trans (Nat.le_trans HS1.out HS2.out) HS3.out) (Nat.le_refl _)) HB7.out (Nat.le_refl _)) HB8.out (Nat.le_refl _)) HB9.out (Nat.le_refl _)) HB10.out (Nat.le_refl _)) HB11.out (Nat.le_refl _))⟩
end Go.Proofs.Ytamgikcoknkghab.fnExactHeadBytesW

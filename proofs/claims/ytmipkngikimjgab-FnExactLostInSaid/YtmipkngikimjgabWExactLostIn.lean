/-
  FnExactLostIn: whatever the arguments, the program answers as the model does, leaves its arguments, and owns its answer. No condition.
-/
import Derived.Test.YtmipkngikimjgabReachI
import Derived.Test.YtmipkngikimjgabReachT
import Derived.Test.YtmipkngikimjgabHelpL
import Derived.Test.YtmipkngikimjgabOpenK
namespace Go.Proofs.Ytmipkngikimjgab.fnExactLostInW
open Go.RowKit Go.Proofs.Ytmipkngikimjgab.Mem Go.Proofs.Ytmipkngikimjgab.Pure Go.Proofs.Ytmipkngikimjgab.Help Go.Proofs.Ytmipkngikimjgab.FloorI Go.Proofs.Ytmipkngikimjgab.Seq Go.Proofs.Ytmipkngikimjgab.Ints Go.Proofs.Ytmipkngikimjgab.Webs Go.Proofs.Ytmipkngikimjgab.HelpK
set_option linter.unusedVariables false

set_option maxRecDepth 100000 in
set_option maxHeartbeats 1000000 in
theorem small (a0 : Option Addr) (len0 cap0 : Nat) (K0 : List Kn) (w : World) (q0 : IsWeb w a0 len0 cap0 K0) (hs0 : len0 + tot K0 ≤ 1048576) :
    Calls Try.prog 6 #[.slice a0 len0 cap0] w fun e w' => e = .returned (.bool true) ∧ Below w.heap.size w w' := by
  have HR0 := Lib.hid q0.rd
  have hlen0 := q0.size
  have hL0 : K0.length ≤ 1048576 := by omega
  have hF0 : ∀ k ∈ K0, k.f.length ≤ 1048576 := fun k hk => by have := one_le_tot hk; omega
  have hKT : K0.length + tot K0 ≤ 1048576 := by omega
  have HL0 := Lib.hid hL0; have HF0 := Lib.hid hF0; have HKT := Lib.hid hKT
  have HI := Lib.hid (fun (w' : World) (l0 h0 : Nat) (v0 : Value) (r0 : RdK w' l0 h0 v0 K0) => ReachI.lostIn w' r0 hL0 hF0)
  have HP := Lib.hid (fun (w' : World) (l0 h0 : Nat) (v0 : Value) (r0 : RdK w' l0 h0 v0 K0) => ReachT.lostIn w' r0 hL0 hF0)
  have HZ : Hid (∃ z : Int, 0 ≤ z ∧ z ≤ 1048576 ∧ Calls Try.prog 20 #[.slice a0 len0 cap0, .int .i64 1048576] w (RetV w (.int .i64 z))) := Lib.hid ⟨1048576 - (K0.length : Int) - (tot K0 : Int), by omega, by omega, by
    have := szKnotS w q0.rd
    rwa [if_neg (by omega)] at this⟩
  obtain ⟨R0, hR0⟩ : ∃ R, R = lostP K0 := ⟨_, rfl⟩
  have HRL0 : Hid (R0.length ≤ 1048576) := by rw [hR0]; exact Nat.le_trans (lostP_length _) (by omega)
  rw [← hR0] at HI HP
  clear hR0 hlen0 hL0 hF0 hKT q0 hs0
  obtain ⟨z, hz0, hz1, hzc⟩ := HZ.out
  have HZC := Lib.hid hzc
  clear hzc HZ
  go_enter Try.func6, Try.ntmps6
  go_wp2_with fail
  refine (HZC.out).mono ?_
  rintro e w1 ⟨rfl, hb1⟩
  have HB1 := Lib.hid hb1; have HS1 := Lib.hid hb1.size; clear hb1
  go_wp2_with fail
  refine (toKnotS w1 (HR0.out.below HB1.out) HL0.out HF0.out).mono ?_
  rintro e w2 ⟨v2, rfl, ho2, hb2⟩
  have HO2 := Lib.hid ho2; have HB2 := Lib.hid hb2; have HS2 := Lib.hid hb2.size; clear ho2 hb2
  go_wp2_with fail
  refine (HP.out w2 _ _ _ HO2.out.rd).mono ?_
  rintro e w3 ⟨v3, rfl, ho3, hb3⟩
  have HO3 := Lib.hid ho3; have HB3 := Lib.hid hb3; have HS3 := Lib.hid hb3.size; clear ho3 hb3
  go_wp2_with fail
  refine (toKnotS w3 (((HR0.out.below HB1.out).below HB2.out).below HB3.out) HL0.out HF0.out).mono ?_
  rintro e w4 ⟨v4, rfl, ho4, hb4⟩
  have HO4 := Lib.hid ho4; have HB4 := Lib.hid hb4; have HS4 := Lib.hid hb4.size; clear ho4 hb4
  go_wp2_with fail
  refine (HI.out w4 _ _ _ HO4.out.rd).mono ?_
  rintro e w5 ⟨v5, rfl, ho5, hb5⟩
  have HO5 := Lib.hid ho5; have HB5 := Lib.hid hb5; have HS5 := Lib.hid hb5.size; clear ho5 hb5
  go_wp2_with fail
  refine (eqInt64S_same w5 HO5.out.rd ((HO3.out.below HB4.out).below HB5.out).rd).mono ?_
  rintro e w6 ⟨rfl, hb6⟩
  have HB6 := Lib.hid hb6; have HS6 := Lib.hid hb6.size; clear hb6
  go_wp2_with fail
  refine (toKnotS w6 ((((((HR0.out.below HB1.out).below HB2.out).below HB3.out).below HB4.out).below HB5.out).below HB6.out) HL0.out HF0.out).mono ?_
  rintro e w7 ⟨v7, rfl, ho7, hb7⟩
  have HO7 := Lib.hid ho7; have HB7 := Lib.hid hb7; have HS7 := Lib.hid hb7.size; clear ho7 hb7
  go_wp2_with fail
  refine (eqKnotS_same w7 (((HO4.out.below HB5.out).below HB6.out).below HB7.out).rd HO7.out.rd).mono ?_
  rintro e w8 ⟨rfl, hb8⟩
  have HB8 := Lib.hid hb8; have HS8 := Lib.hid hb8.size; clear hb8
  have HMK : Hid (∃ z : Nat, 0 < z ∧ Calls Try.prog 24 #[v4, .int .i64 1] w8 (fun e w' => e = .returned (.int .i64 (z : Int)) ∧ OnlyIn w3.heap.size w4.heap.size w8 w')) := Lib.hid ⟨1 + 2 * K0.length + tot K0, by omega, HelpL.markKnotS w8 ((((HO4.out.below HB5.out).below HB6.out).below HB7.out).below HB8.out) HKT.out⟩
  obtain ⟨zm, hzm0, hzm⟩ := HMK.out
  have HZM := Lib.hid hzm
  clear hzm HMK
  go_wp2_with fail
  refine (HZM.out).mono ?_
  rintro e w9 ⟨rfl, ht9⟩
  have HT9 := Lib.hid ht9; have HS9 := Lib.hid ht9.size; clear ht9
  go_wp2_with fail
  refine (eqInt64S_same w9 ((((HO5.out.below HB6.out).below HB7.out).below HB8.out).touch HT9.out (.inr (Nat.le_refl _))).rd ((((((HO3.out.below HB4.out).below HB5.out).below HB6.out).below HB7.out).below HB8.out).touch HT9.out (.inl (Nat.le_refl _))).rd).mono ?_
  rintro e w10 ⟨rfl, hb10⟩
  have HB10 := Lib.hid hb10; have HS10 := Lib.hid hb10.size; clear hb10
  go_wp2_with fail
  refine (markInt64S w10 (s := 1) (((((HO5.out.below HB6.out).below HB7.out).below HB8.out).touch HT9.out (.inr (Nat.le_refl _))).below HB10.out) HRL0.out (by omega)).mono ?_
  rintro e w11 ⟨rfl, ho11, ht11⟩
  have HO11 := Lib.hid ho11; have HT11 := Lib.hid ht11; have HS11 := Lib.hid ht11.size; clear ho11 ht11
  go_wp2_with fail
  refine (heldInt64S w11 (s := 1) HO11.out.rd HRL0.out (by omega)).mono ?_
  rintro e w12 ⟨rfl, hb12⟩
  have HB12 := Lib.hid hb12; have HS12 := Lib.hid hb12.size; clear hb12
  go_wp2_with fail
  refine (toKnotS w12 ((((((((((((HR0.out.below HB1.out).below HB2.out).below HB3.out).below HB4.out).below HB5.out).below HB6.out).below HB7.out).below HB8.out).touch HT9.out (.inl (Nat.le_trans (Nat.le_trans HS1.out HS2.out) HS3.out))).below HB10.out).touch HT11.out (.inl (Nat.le_trans (Nat.le_trans (Nat.le_trans HS1.out HS2.out) HS3.out) HS4.out))).below HB12.out) HL0.out HF0.out).mono ?_
  rintro e w13 ⟨v13, rfl, ho13, hb13⟩
  have HO13 := Lib.hid ho13; have HB13 := Lib.hid hb13; have HS13 := Lib.hid hb13.size; clear ho13 hb13
  go_wp2_with fail
  refine (HI.out w13 _ _ _ HO13.out.rd).mono ?_
  rintro e w14 ⟨v14, rfl, ho14, hb14⟩
  have HO14 := Lib.hid ho14; have HB14 := Lib.hid hb14; have HS14 := Lib.hid hb14.size; clear ho14 hb14
  go_wp2_with fail
  refine (eqInt64S_same w14 HO14.out.rd (((((((((((HO3.out.below HB4.out).below HB5.out).below HB6.out).below HB7.out).below HB8.out).touch HT9.out (.inl (Nat.le_refl _))).below HB10.out).touch HT11.out (.inl HS4.out)).below HB12.out).below HB13.out).below HB14.out).rd).mono ?_
  rintro e w15 ⟨rfl, hb15⟩
  have HB15 := Lib.hid hb15; have HS15 := Lib.hid hb15.size; clear hb15
  go_wp2_with fail
  refine (heldInt64S w15 (s := 1) ((((HO11.out.below HB12.out).below HB13.out).below HB14.out).below HB15.out).rd HRL0.out (by omega)).mono ?_
  rintro e w16 ⟨rfl, hb16⟩
  have HB16 := Lib.hid hb16; have HS16 := Lib.hid hb16.size; clear hb16
  go_wp2
  go_ret
  exact ⟨rfl, (below_then (below_then (below_then (below_then (below_then (below_touch (below_then (below_touch (below_then (below_then (below_then (below_then (below_then (below_then (below_then (below_then (Below.refl _ _) HB1.out (Nat.le_refl _)) HB2.out (Nat.le_refl _)) HB3.out (Nat.le_refl _)) HB4.out (Nat.le_refl _)) HB5.out (Nat.le_refl _)) HB6.out (Nat.le_refl _)) HB7.out (Nat.le_refl _)) HB8.out (Nat.le_refl _)) HT9.out (Nat.le_trans (Nat.le_trans HS1.out HS2.out) HS3.out) (Nat.le_refl _)) HB10.out (Nat.le_refl _)) HT11.out (Nat.le_trans (Nat.le_trans (Nat.le_trans HS1.out HS2.out) HS3.out) HS4.out) (Nat.le_refl _)) HB12.out (Nat.le_refl _)) HB13.out (Nat.le_refl _)) HB14.out (Nat.le_refl _)) HB15.out (Nat.le_refl _)) HB16.out (Nat.le_refl _))⟩

set_option maxHeartbeats 400000 in
theorem big0 (a0 : Option Addr) (len0 cap0 : Nat) (K0 : List Kn) (w : World) (q0 : IsWeb w a0 len0 cap0 K0) (hb0 : 1048576 < len0 + tot K0) :
    Calls Try.prog 6 #[.slice a0 len0 cap0] w fun e w' => e = .returned (.bool true) ∧ Below w.heap.size w w' := by
  have HZ : Hid (Calls Try.prog 20 #[.slice a0 len0 cap0, .int .i64 1048576] w (RetV w (.int .i64 (-1)))) := Lib.hid (by
    have h1 := szKnotS w q0.rd
    have h2 := q0.size
    rwa [if_pos (by omega)] at h1)
  clear q0 hb0
  go_enter Try.func6, Try.ntmps6
  go_wp2_with fail
  refine HZ.out.mono ?_
  rintro e w1 ⟨rfl, hb1⟩
  have HB1 := Lib.hid hb1
  clear hb1
  go_wp2
  go_ret
  exact ⟨rfl, HB1.out⟩

theorem walk (a0 : Option Addr) (len0 cap0 : Nat) (K0 : List Kn) (w : World) (q0 : IsWeb w a0 len0 cap0 K0) :
    Calls Try.prog 6 #[.slice a0 len0 cap0] w fun e w' => e = .returned (.bool true) ∧ Below w.heap.size w w' := by
  by_cases hs0 : len0 + tot K0 ≤ 1048576
  case neg => exact big0 a0 len0 cap0 K0 w q0 (by omega)
  exact small a0 len0 cap0 K0 w q0 hs0
end Go.Proofs.Ytmipkngikimjgab.fnExactLostInW

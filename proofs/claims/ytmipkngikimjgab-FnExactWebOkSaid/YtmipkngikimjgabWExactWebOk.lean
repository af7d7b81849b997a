/-
  FnExactWebOk: whatever the arguments, the program answers as the model does, leaves its arguments, and owns its answer. No condition.
-/
import Derived.Test.YtmipkngikimjgabReachI
import Derived.Test.YtmipkngikimjgabReachS
import Derived.Test.YtmipkngikimjgabHelpK
import Derived.Test.YtmipkngikimjgabOpenK
namespace Go.Proofs.Ytmipkngikimjgab.fnExactWebOkW
open Go.RowKit Go.Proofs.Ytmipkngikimjgab.Mem Go.Proofs.Ytmipkngikimjgab.Pure Go.Proofs.Ytmipkngikimjgab.Help Go.Proofs.Ytmipkngikimjgab.FloorI Go.Proofs.Ytmipkngikimjgab.Seq Go.Proofs.Ytmipkngikimjgab.Ints Go.Proofs.Ytmipkngikimjgab.Webs Go.Proofs.Ytmipkngikimjgab.HelpK
set_option linter.unusedVariables false

set_option maxRecDepth 100000 in
set_option maxHeartbeats 1000000 in
theorem small (a0 : Option Addr) (len0 cap0 : Nat) (K0 : List Kn) (w : World) (q0 : IsWeb w a0 len0 cap0 K0) (hs0 : len0 + tot K0 ≤ 1048576) :
    Calls Try.prog 4 #[.slice a0 len0 cap0] w fun e w' => e = .returned (.bool true) ∧ Below w.heap.size w w' := by
  have HR0 := Lib.hid q0.rd
  have hlen0 := q0.size
  have hL0 : K0.length ≤ 1048576 := by omega
  have hF0 : ∀ k ∈ K0, k.f.length ≤ 1048576 := fun k hk => by have := one_le_tot hk; omega
  have hKT : K0.length + tot K0 ≤ 1048576 := by omega
  have HL0 := Lib.hid hL0; have HF0 := Lib.hid hF0; have HKT := Lib.hid hKT
  have HI := Lib.hid (fun (w' : World) (l0 h0 : Nat) (v0 : Value) (r0 : RdK w' l0 h0 v0 K0) => ReachI.webOk w' r0 hL0 hF0)
  have HP := Lib.hid (fun (w' : World) (l0 h0 : Nat) (v0 : Value) (r0 : RdK w' l0 h0 v0 K0) => ReachS.webOk w' r0 hL0 hF0)
  have HZ : Hid (∃ z : Int, 0 ≤ z ∧ z ≤ 1048576 ∧ Calls Try.prog 20 #[.slice a0 len0 cap0, .int .i64 1048576] w (RetV w (.int .i64 z))) := Lib.hid ⟨1048576 - (K0.length : Int) - (tot K0 : Int), by omega, by omega, by
    have := szKnotS w q0.rd
    rwa [if_neg (by omega)] at this⟩
  obtain ⟨R0, hR0⟩ : ∃ R, R = webB K0 := ⟨_, rfl⟩
  rw [← hR0] at HI HP
  clear hR0 hlen0 hL0 hF0 hKT q0 hs0
  obtain ⟨z, hz0, hz1, hzc⟩ := HZ.out
  have HZC := Lib.hid hzc
  clear hzc HZ
  go_enter Try.func4, Try.ntmps4
  go_wp2_with fail
  refine (HZC.out).mono ?_
  rintro e w1 ⟨rfl, hb1⟩
  have HB1 := Lib.hid hb1; have HS1 := Lib.hid hb1.size; clear hb1
  go_wp2_with fail
  refine (toKnotS w1 (HR0.out.below HB1.out) HL0.out HF0.out).mono ?_
  rintro e w2 ⟨v2, rfl, ho2, hb2⟩
  have HO2 := Lib.hid ho2; have HB2 := Lib.hid hb2; have HS2 := Lib.hid hb2.size; clear ho2 hb2
  go_wp2_with fail
  refine (HP.out w2 _ _ _ HO2.out.rd).mono ?_
  rintro e w3 ⟨rfl, hb3⟩
  have HB3 := Lib.hid hb3; have HS3 := Lib.hid hb3.size; clear hb3
  go_wp2_with fail
  refine (toKnotS w3 (((HR0.out.below HB1.out).below HB2.out).below HB3.out) HL0.out HF0.out).mono ?_
  rintro e w4 ⟨v4, rfl, ho4, hb4⟩
  have HO4 := Lib.hid ho4; have HB4 := Lib.hid hb4; have HS4 := Lib.hid hb4.size; clear ho4 hb4
  go_wp2_with fail
  refine (HI.out w4 _ _ _ HO4.out.rd).mono ?_
  rintro e w5 ⟨rfl, hb5⟩
  have HB5 := Lib.hid hb5; have HS5 := Lib.hid hb5.size; clear hb5
  go_wp2_with fail
  refine (toKnotS w5 (((((HR0.out.below HB1.out).below HB2.out).below HB3.out).below HB4.out).below HB5.out) HL0.out HF0.out).mono ?_
  rintro e w6 ⟨v6, rfl, ho6, hb6⟩
  have HO6 := Lib.hid ho6; have HB6 := Lib.hid hb6; have HS6 := Lib.hid hb6.size; clear ho6 hb6
  go_wp2_with fail
  refine (eqKnotS_same w6 ((HO4.out.below HB5.out).below HB6.out).rd HO6.out.rd).mono ?_
  rintro e w7 ⟨rfl, hb7⟩
  have HB7 := Lib.hid hb7; have HS7 := Lib.hid hb7.size; clear hb7
  go_wp2
  go_ret
  exact ⟨rfl, (below_then (below_then (below_then (below_then (below_then (below_then (below_then (Below.refl _ _) HB1.out (Nat.le_refl _)) HB2.out (Nat.le_refl _)) HB3.out (Nat.le_refl _)) HB4.out (Nat.le_refl _)) HB5.out (Nat.le_refl _)) HB6.out (Nat.le_refl _)) HB7.out (Nat.le_refl _))⟩

set_option maxHeartbeats 400000 in
theorem big0 (a0 : Option Addr) (len0 cap0 : Nat) (K0 : List Kn) (w : World) (q0 : IsWeb w a0 len0 cap0 K0) (hb0 : 1048576 < len0 + tot K0) :
    Calls Try.prog 4 #[.slice a0 len0 cap0] w fun e w' => e = .returned (.bool true) ∧ Below w.heap.size w w' := by
  have HZ : Hid (Calls Try.prog 20 #[.slice a0 len0 cap0, .int .i64 1048576] w (RetV w (.int .i64 (-1)))) := Lib.hid (by
    have h1 := szKnotS w q0.rd
    have h2 := q0.size
    rwa [if_pos (by omega)] at h1)
  clear q0 hb0
  go_enter Try.func4, Try.ntmps4
  go_wp2_with fail
  refine HZ.out.mono ?_
  rintro e w1 ⟨rfl, hb1⟩
  have HB1 := Lib.hid hb1
  clear hb1
  go_wp2
  go_ret
  exact ⟨rfl, HB1.out⟩

theorem walk (a0 : Option Addr) (len0 cap0 : Nat) (K0 : List Kn) (w : World) (q0 : IsWeb w a0 len0 cap0 K0) :
    Calls Try.prog 4 #[.slice a0 len0 cap0] w fun e w' => e = .returned (.bool true) ∧ Below w.heap.size w w' := by
  by_cases hs0 : len0 + tot K0 ≤ 1048576
  case neg => exact big0 a0 len0 cap0 K0 w q0 (by omega)
  exact small a0 len0 cap0 K0 w q0 hs0
end Go.Proofs.Ytmipkngikimjgab.fnExactWebOkW

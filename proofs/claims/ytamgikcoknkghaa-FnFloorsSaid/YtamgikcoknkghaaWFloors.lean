/-
  FnFloors: on whatever floors are drawn the program lays, pushes, wipes and cuts as the model does; what is laid is read back; what is pushed comes as it was. No condition.
-/
import Derived.Test.YtamgikcoknkghaaDraw1
import Derived.Test.YtamgikcoknkghaaIn
namespace Go.Proofs.Ytamgikcoknkghaa.fnFloorsW
open Go.RowKit Go.Proofs.Ytamgikcoknkghaa.Mem Go.Proofs.Ytamgikcoknkghaa.Pure Go.Proofs.Ytamgikcoknkghaa.Help Go.Proofs.Ytamgikcoknkghaa.FloorI Go.Proofs.Ytamgikcoknkghaa.Cur
set_option linter.unusedVariables false

set_option maxHeartbeats 1000000 in
theorem big (w : World) {v : Value} {lo hi : Nat} {L : List Int} (h : Rd w lo hi v L) :
    Calls Try.prog 9 #[v] w fun e w' => e = .returned (.bool (decide (4096 < L.length))) ∧ w = w' := by
  obtain ⟨A, c, rfl, _, hm, _⟩ := h
  unfold maxLen at hm
  go_enter Try.func9, Try.ntmps9
  go_wp2
  go_ret
  refine ⟨?_, rfl⟩
  first | rfl | (simp; omega)

set_option maxRecDepth 100000 in
set_option maxHeartbeats 4000000 in
theorem small (a0 : Option Addr) (len0 cap0 : Nat) (z0 : List Int) (w : World) (q0 : IsRow .u8 w a0 len0 cap0 z0) (hs0 : len0 ≤ 4096) :
    Calls Try.prog 3 #[.slice a0 len0 cap0] w fun e w' => e = .returned (.bool true) ∧ Below w.heap.size w w' := by
  have r0 := q0.rd
  have hlen0 := q0.len
  have hy0 := q0.byt
  obtain ⟨C, hC⟩ : ∃ Z, Z = z0.take len0 := ⟨_, rfl⟩
  rw [← hC] at r0 hlen0 hy0
  have HR0 := Lib.hid r0; have HL0 : Hid (C.length ≤ 4096) := Lib.hid (by omega); have HY0 := Lib.hid hy0
  have HBIG : Hid (∀ w1 : World, Below w.heap.size w w1 → Calls Try.prog 9 #[.slice a0 len0 cap0] w1 fun e w2 => e = .returned (.bool false) ∧ w1 = w2) := Lib.hid (fun w1 hb => by have := big w1 (r0.below hb); rwa [decide_eq_false (by omega)] at this)
  clear r0 hlen0 hy0 hC q0 hs0
  go_enter Try.func3, Try.ntmps3
  go_wp2_with fail
  refine (HBIG.out w (Below.refl _ _)).mono ?_
  rintro e w1 ⟨rfl, rfl⟩
  go_wp2_with fail
  refine (drawPartOf w (HR0.out.more (Nat.le_refl _) (Nat.le_refl _)) HL0.out HY0.out).mono ?_
  rintro e w1 ⟨v1, L1, n1_0, n1_1, rfl, ho1, hy1, hl1, hi1_0, hi1_1, hb1⟩
  have HO1 := Lib.hid ho1; have HY1 := Lib.hid hy1; have HB1 := Lib.hid hb1; have HS1 := Lib.hid hb1.size
  obtain ⟨A1, c1, rfl, _, _, _⟩ := ho1.rd
  have HI1_0 := Lib.hid hi1_0
  have HI1_1 := Lib.hid hi1_1
  clear ho1 hy1 hb1 hi1_0 hi1_1
  go_wp2_with fail
  refine (FloorI.partOf w1 HO1.out.rd (by omega : L1.length ≤ 1048576) HI1_0.out HI1_1.out).mono ?_
  rintro e w2 ⟨v2, rfl, ho2, hb2⟩
  have HO2 := Lib.hid ho2; have HB2 := Lib.hid hb2; have HS2 := Lib.hid hb2.size
  obtain ⟨A2, c2, hv2, _, _, _⟩ := ho2.rd
  subst hv2
  clear ho2 hb2
  go_wp2_with fail
  refine (FloorS.partOf w2 (HO1.out.below HB2.out).rd (by omega : L1.length ≤ 1048576) HI1_0.out HI1_1.out).mono ?_
  rintro e w3 ⟨v3, rfl, ho3, hb3⟩
  have HO3 := Lib.hid ho3; have HB3 := Lib.hid hb3; have HS3 := Lib.hid hb3.size
  obtain ⟨A3, c3, hv3, _, _, _⟩ := ho3.rd
  subst hv3
  clear ho3 hb3
  go_wp2_with fail
  refine (drawLaid w3 ((((HR0.out.below HB1.out).below HB2.out).below HB3.out).more (Nat.le_refl _) (Nat.le_trans (Nat.le_trans HS1.out HS2.out) HS3.out)) HL0.out HY0.out).mono ?_
  rintro e w4 ⟨v4, L4, n4_0, u4, M4, mid4, rfl, hm4a, hm4b, ho4, hy4, hl4, hi4_0, hp4, hz4, hq4, hb4⟩
  have HO4 := Lib.hid ho4; have HY4 := Lib.hid hy4; have HB4 := Lib.hid hb4; have HS4 := Lib.hid hb4.size
  obtain ⟨A4, c4, rfl, _, _, _⟩ := ho4.rd
  have HI4_0 := Lib.hid hi4_0
  have HP4 := Lib.hid hp4; have HZ4 := Lib.hid hz4; have HMA4 := Lib.hid hm4a; have HMB4 := Lib.hid hm4b
  obtain ⟨D4, d4, rfl, _, _, _⟩ := hp4.rd
  clear hp4 hz4 hm4a hm4b
  clear ho4 hy4 hb4 hi4_0
  go_wp2_with fail
  refine (FloorI.laid w4 HO4.out.rd HP4.out.rd (by omega : L4.length ≤ 1048576) (by omega : M4.length ≤ 1048576) HI4_0.out).mono ?_
  rintro e w5 ⟨v5, rfl, ho5, hb5⟩
  have HO5 := Lib.hid ho5; have HB5 := Lib.hid hb5; have HS5 := Lib.hid hb5.size
  obtain ⟨A5, c5, hv5, _, _, _⟩ := ho5.rd
  rw [laidL_length] at hv5
  subst hv5
  clear ho5 hb5
  go_wp2_with fail
  refine (FloorS.laid w5 (HO4.out.below HB5.out).rd (HP4.out.below HB5.out).rd HS5.out (by omega : L4.length ≤ 1048576) (by omega : M4.length ≤ 1048576) HI4_0.out).mono ?_
  rintro e w6 ⟨v6, rfl, ho6, hb6⟩
  have HO6 := Lib.hid ho6; have HB6 := Lib.hid hb6; have HS6 := Lib.hid hb6.size
  obtain ⟨A6, c6, hv6, _, _, _⟩ := ho6.rd
  subst hv6
  clear ho6 hb6
  go_wp2_with fail
  refine (drawPushed w6 (((((((HR0.out.below HB1.out).below HB2.out).below HB3.out).below HB4.out).below HB5.out).below HB6.out).more (Nat.le_refl _) (Nat.le_trans (Nat.le_trans (Nat.le_trans (Nat.le_trans (Nat.le_trans HS1.out HS2.out) HS3.out) HS4.out) HS5.out) HS6.out)) HL0.out HY0.out).mono ?_
  rintro e w7 ⟨v7, L7, n7_0, n7_1, n7_2, rfl, ho7, hy7, hl7, hi7_0, hi7_1, hi7_2, hb7⟩
  have HO7 := Lib.hid ho7; have HY7 := Lib.hid hy7; have HB7 := Lib.hid hb7; have HS7 := Lib.hid hb7.size
  obtain ⟨A7, c7, rfl, _, _, _⟩ := ho7.rd
  have HI7_0 := Lib.hid hi7_0
  have HI7_1 := Lib.hid hi7_1
  have HI7_2 := Lib.hid hi7_2
  clear ho7 hy7 hb7 hi7_0 hi7_1 hi7_2
  go_wp2_with fail
  refine (FloorI.pushed w7 HO7.out.rd (by omega : L7.length ≤ 1048576) HI7_0.out HI7_1.out HI7_2.out).mono ?_
  rintro e w8 ⟨v8, rfl, ho8, hb8⟩
  have HO8 := Lib.hid ho8; have HB8 := Lib.hid hb8; have HS8 := Lib.hid hb8.size
  obtain ⟨A8, c8, hv8, _, _, _⟩ := ho8.rd
  rw [pushedL_length] at hv8
  subst hv8
  clear ho8 hb8
  go_wp2_with fail
  refine (FloorS.pushed w8 (HO7.out.below HB8.out).rd (by omega : L7.length ≤ 1048576) HI7_0.out HI7_1.out HI7_2.out).mono ?_
  rintro e w9 ⟨v9, rfl, ho9, hb9⟩
  have HO9 := Lib.hid ho9; have HB9 := Lib.hid hb9; have HS9 := Lib.hid hb9.size
  obtain ⟨A9, c9, hv9, _, _, _⟩ := ho9.rd
  subst hv9
  clear ho9 hb9
  go_wp2_with fail
  refine (FloorI.wiped w9 ((((((((HO1.out.below HB2.out).below HB3.out).below HB4.out).below HB5.out).below HB6.out).below HB7.out).below HB8.out).below HB9.out).rd (by omega : L1.length ≤ 1048576) HI1_0.out HI1_1.out).mono ?_
  rintro e w10 ⟨v10, rfl, ho10, hb10⟩
  have HO10 := Lib.hid ho10; have HB10 := Lib.hid hb10; have HS10 := Lib.hid hb10.size
  obtain ⟨A10, c10, hv10, _, _, _⟩ := ho10.rd
  rw [wipedL_length] at hv10
  subst hv10
  clear ho10 hb10
  go_wp2_with fail
  refine (FloorS.wiped w10 (((((((((HO1.out.below HB2.out).below HB3.out).below HB4.out).below HB5.out).below HB6.out).below HB7.out).below HB8.out).below HB9.out).below HB10.out).rd (by omega : L1.length ≤ 1048576) HI1_0.out HI1_1.out).mono ?_
  rintro e w11 ⟨v11, rfl, ho11, hb11⟩
  have HO11 := Lib.hid ho11; have HB11 := Lib.hid hb11; have HS11 := Lib.hid hb11.size
  obtain ⟨A11, c11, hv11, _, _, _⟩ := ho11.rd
  subst hv11
  clear ho11 hb11
  go_wp2_with fail
  refine (likeSame w11 (((((((((HO2.out.below HB3.out).below HB4.out).below HB5.out).below HB6.out).below HB7.out).below HB8.out).below HB9.out).below HB10.out).below HB11.out).rd ((((((((HO3.out.below HB4.out).below HB5.out).below HB6.out).below HB7.out).below HB8.out).below HB9.out).below HB10.out).below HB11.out).rd (byt_partL HY1.out)).mono ?_
  rintro e w12 ⟨rfl, hb12⟩
  have HB12 := Lib.hid hb12; have HS12 := Lib.hid hb12.size; clear hb12
  go_wp2_with fail
  refine (likeSame w12 (((((((HO5.out.below HB6.out).below HB7.out).below HB8.out).below HB9.out).below HB10.out).below HB11.out).below HB12.out).rd ((((((HO6.out.below HB7.out).below HB8.out).below HB9.out).below HB10.out).below HB11.out).below HB12.out).rd (byt_laidL HY4.out HZ4.out)).mono ?_
  rintro e w13 ⟨rfl, hb13⟩
  have HB13 := Lib.hid hb13; have HS13 := Lib.hid hb13.size; clear hb13
  go_wp2_with fail
  refine (likeSame w13 (((((HO8.out.below HB9.out).below HB10.out).below HB11.out).below HB12.out).below HB13.out).rd ((((HO9.out.below HB10.out).below HB11.out).below HB12.out).below HB13.out).rd (byt_pushedL HY7.out)).mono ?_
  rintro e w14 ⟨rfl, hb14⟩
  have HB14 := Lib.hid hb14; have HS14 := Lib.hid hb14.size; clear hb14
  go_wp2_with fail
  refine (likeSame w14 ((((HO10.out.below HB11.out).below HB12.out).below HB13.out).below HB14.out).rd (((HO11.out.below HB12.out).below HB13.out).below HB14.out).rd (byt_wipedL HY1.out)).mono ?_
  rintro e w15 ⟨rfl, hb15⟩
  have HB15 := Lib.hid hb15; have HS15 := Lib.hid hb15.size; clear hb15
  by_cases hlb : there L4 n4_0 (M4.length : Int) = true
  · have hlk := laid_back hlb
    have HLK := Lib.hid hlk
    clear hlk
    have hll := FloorI.partOf w15 ((((((((((HO5.out.below HB6.out).below HB7.out).below HB8.out).below HB9.out).below HB10.out).below HB11.out).below HB12.out).below HB13.out).below HB14.out).below HB15.out).rd (by rw [laidL_length]; omega) HI4_0.out (show I64 (M4.length : Int) by unfold I64; omega)
    rw [HLK.out.1, HLK.out.2] at hll
    have HLL := Lib.hid hll
    clear hll
    go_wp2_with fail
    refine (HLL.out).mono ?_
    rintro e w16 ⟨v16, rfl, ho16, hb16⟩
    have HO16 := Lib.hid ho16; have HB16 := Lib.hid hb16; have HS16 := Lib.hid hb16.size
    obtain ⟨A16, c16, hv16, _, _, _⟩ := ho16.rd
    subst hv16
    clear ho16 hb16
    go_wp2_with fail
    refine (likeSame w16 HO16.out.rd ((((((((((((HP4.out.below HB5.out).below HB6.out).below HB7.out).below HB8.out).below HB9.out).below HB10.out).below HB11.out).below HB12.out).below HB13.out).below HB14.out).below HB15.out).below HB16.out).rd HZ4.out).mono ?_
    rintro e w17 ⟨rfl, hb17⟩
    have HB17 := Lib.hid hb17; have HS17 := Lib.hid hb17.size; clear hb17
    by_cases hpb : pushB L7 n7_0 n7_1 n7_2 = true
    · have hpk := push_back hpb
      have HPK := Lib.hid hpk
      clear hpk
      go_wp2_with fail
      refine (FloorI.partOf w17 ((((((((((HO7.out.below HB8.out).below HB9.out).below HB10.out).below HB11.out).below HB12.out).below HB13.out).below HB14.out).below HB15.out).below HB16.out).below HB17.out).rd (by omega : L7.length ≤ 1048576) HI7_0.out HI7_2.out).mono ?_
      rintro e w18 ⟨v18, rfl, ho18, hb18⟩
      have HO18 := Lib.hid ho18; have HB18 := Lib.hid hb18; have HS18 := Lib.hid hb18.size
      obtain ⟨A18, c18, hv18, _, _, _⟩ := ho18.rd
      subst hv18
      clear ho18 hb18
      have hpp := FloorI.partOf w18 ((((((((((HO8.out.below HB9.out).below HB10.out).below HB11.out).below HB12.out).below HB13.out).below HB14.out).below HB15.out).below HB16.out).below HB17.out).below HB18.out).rd (by rw [pushedL_length]; omega) HI7_1.out HI7_2.out
      rw [HPK.out.1, HPK.out.2] at hpp
      have HPP := Lib.hid hpp
      clear hpp
      go_wp2_with fail
      refine (HPP.out).mono ?_
      rintro e w19 ⟨v19, rfl, ho19, hb19⟩
      have HO19 := Lib.hid ho19; have HB19 := Lib.hid hb19; have HS19 := Lib.hid hb19.size
      obtain ⟨A19, c19, hv19, _, _, _⟩ := ho19.rd
      subst hv19
      clear ho19 hb19
      go_wp2_with fail
      refine (likeSame w19 (HO18.out.below HB19.out).rd HO19.out.rd (byt_partL HY7.out)).mono ?_
      rintro e w20 ⟨rfl, hb20⟩
      have HB20 := Lib.hid hb20; have HS20 := Lib.hid hb20.size; clear hb20
      go_wp2
      go_ret
      exact ⟨by first | rfl | simp, (below_then (below_then (below_then (below_then (below_then (below_then (below_then (below_then (below_then (below_then (below_then (below_then (below_then (below_then (below_then (below_then (below_then (below_then (below_then (below_then (Below.refl _ _) HB1.out (Nat.le_refl _)) HB2.out (Nat.le_refl _)) HB3.out (Nat.le_refl _)) HB4.out (Nat.le_refl _)) HB5.out (Nat.le_refl _)) HB6.out (Nat.le_refl _)) HB7.out (Nat.le_refl _)) HB8.out (Nat.le_refl _)) HB9.out (Nat.le_refl _)) HB10.out (Nat.le_refl _)) HB11.out (Nat.le_refl _)) HB12.out (Nat.le_refl _)) HB13.out (Nat.le_refl _)) HB14.out (Nat.le_refl _)) HB15.out (Nat.le_refl _)) HB16.out (Nat.le_refl _)) HB17.out (Nat.le_refl _)) HB18.out (Nat.le_refl _)) HB19.out (Nat.le_refl _)) HB20.out (Nat.le_refl _))⟩
    · have hpb' : pushB L7 n7_0 n7_1 n7_2 = false := by simpa using hpb
      clear hpb
      go_wp2
      go_ret
      exact ⟨by first | rfl | simp, (below_then (below_then (below_then (below_then (below_then (below_then (below_then (below_then (below_then (below_then (below_then (below_then (below_then (below_then (below_then (below_then (below_then (Below.refl _ _) HB1.out (Nat.le_refl _)) HB2.out (Nat.le_refl _)) HB3.out (Nat.le_refl _)) HB4.out (Nat.le_refl _)) HB5.out (Nat.le_refl _)) HB6.out (Nat.le_refl _)) HB7.out (Nat.le_refl _)) HB8.out (Nat.le_refl _)) HB9.out (Nat.le_refl _)) HB10.out (Nat.le_refl _)) HB11.out (Nat.le_refl _)) HB12.out (Nat.le_refl _)) HB13.out (Nat.le_refl _)) HB14.out (Nat.le_refl _)) HB15.out (Nat.le_refl _)) HB16.out (Nat.le_refl _)) HB17.out (Nat.le_refl _))⟩
  · have hlb' : there L4 n4_0 (M4.length : Int) = false := by simpa using hlb
    clear hlb
    by_cases hpb : pushB L7 n7_0 n7_1 n7_2 = true
    · have hpk := push_back hpb
      have HPK := Lib.hid hpk
      clear hpk
      go_wp2_with fail
      refine (FloorI.partOf w15 ((((((((HO7.out.below HB8.out).below HB9.out).below HB10.out).below HB11.out).below HB12.out).below HB13.out).below HB14.out).below HB15.out).rd (by omega : L7.length ≤ 1048576) HI7_0.out HI7_2.out).mono ?_
      rintro e w16 ⟨v16, rfl, ho16, hb16⟩
      have HO16 := Lib.hid ho16; have HB16 := Lib.hid hb16; have HS16 := Lib.hid hb16.size
      obtain ⟨A16, c16, hv16, _, _, _⟩ := ho16.rd
      subst hv16
      clear ho16 hb16
      have hpp := FloorI.partOf w16 ((((((((HO8.out.below HB9.out).below HB10.out).below HB11.out).below HB12.out).below HB13.out).below HB14.out).below HB15.out).below HB16.out).rd (by rw [pushedL_length]; omega) HI7_1.out HI7_2.out
      rw [HPK.out.1, HPK.out.2] at hpp
      have HPP := Lib.hid hpp
      clear hpp
      go_wp2_with fail
      refine (HPP.out).mono ?_
      rintro e w17 ⟨v17, rfl, ho17, hb17⟩
      have HO17 := Lib.hid ho17; have HB17 := Lib.hid hb17; have HS17 := Lib.hid hb17.size
      obtain ⟨A17, c17, hv17, _, _, _⟩ := ho17.rd
      subst hv17
      clear ho17 hb17
      go_wp2_with fail
      refine (likeSame w17 (HO16.out.below HB17.out).rd HO17.out.rd (byt_partL HY7.out)).mono ?_
      rintro e w18 ⟨rfl, hb18⟩
      have HB18 := Lib.hid hb18; have HS18 := Lib.hid hb18.size; clear hb18
      go_wp2
      go_ret
      exact ⟨by first | rfl | simp, (below_then (below_then (below_then (below_then (below_then (below_then (below_then (below_then (below_then (below_then (below_then (below_then (below_then (below_then (below_then (below_then (below_then (below_then (Below.refl _ _) HB1.out (Nat.le_refl _)) HB2.out (Nat.le_refl _)) HB3.out (Nat.le_refl _)) HB4.out (Nat.le_refl _)) HB5.out (Nat.le_refl _)) HB6.out (Nat.le_refl _)) HB7.out (Nat.le_refl _)) HB8.out (Nat.le_refl _)) HB9.out (Nat.le_refl _)) HB10.out (Nat.le_refl _)) HB11.out (Nat.le_refl _)) HB12.out (Nat.le_refl _)) HB13.out (Nat.le_refl _)) HB14.out (Nat.le_refl _)) HB15.out (Nat.le_refl _)) HB16.out (Nat.le_refl _)) HB17.out (Nat.le_refl _)) HB18.out (Nat.le_refl _))⟩
    · have hpb' : pushB L7 n7_0 n7_1 n7_2 = false := by simpa using hpb
      clear hpb
      go_wp2
      go_ret
      exact ⟨by first | rfl | simp, (below_then (below_then (below_then (below_then (below_then (below_then (below_then (below_then (below_then (below_then (below_then (below_then (below_then (below_then (below_then (Below.refl _ _) HB1.out (Nat.le_refl _)) HB2.out (Nat.le_refl _)) HB3.out (Nat.le_refl _)) HB4.out (Nat.le_refl _)) HB5.out (Nat.le_refl _)) HB6.out (Nat.le_refl _)) HB7.out (Nat.le_refl _)) HB8.out (Nat.le_refl _)) HB9.out (Nat.le_refl _)) HB10.out (Nat.le_refl _)) HB11.out (Nat.le_refl _)) HB12.out (Nat.le_refl _)) HB13.out (Nat.le_refl _)) HB14.out (Nat.le_refl _)) HB15.out (Nat.le_refl _))⟩

set_option maxRecDepth 100000 in
set_option maxHeartbeats 1000000 in
theorem walk (a0 : Option Addr) (len0 cap0 : Nat) (z0 : List Int) (w : World) (q0 : IsRow .u8 w a0 len0 cap0 z0) :
    Calls Try.prog 3 #[.slice a0 len0 cap0] w fun e w' => e = .returned (.bool true) ∧ Below w.heap.size w w' := by
  by_cases hs : len0 ≤ 4096
  · exact small a0 len0 cap0 z0 w q0 hs
  · have hb := big w q0.rd
    rw [q0.len, decide_eq_true (by omega)] at hb
    have HB := Lib.hid hb
    clear hb
    go_enter Try.func3, Try.ntmps3
    go_wp2_with fail
    refine HB.out.mono ?_
    rintro e w1 ⟨rfl, rfl⟩
    go_wp2
    go_ret
    exact ⟨rfl, Below.refl _ _⟩
end Go.Proofs.Ytamgikcoknkghaa.fnFloorsW

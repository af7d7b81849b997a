/-
  FnExactHeardBy, where the program answers as the model does and owns its answer: the law says yes. No condition but that contract.
-/
import Derived.Test.YtmipkngikimjgaaHeardS
import Derived.Test.YtmipkngikimjgaaOrdM
namespace Go.Proofs.Ytmipkngikimjgaa.HeardL
open Go.RowKit Go.Proofs.Ytmipkngikimjgaa.Mem Go.Proofs.Ytmipkngikimjgaa.Pure Go.Proofs.Ytmipkngikimjgaa.Help Go.Proofs.Ytmipkngikimjgaa.Seq Go.Proofs.Ytmipkngikimjgaa.Ints Go.Proofs.Ytmipkngikimjgaa.Nest Go.Proofs.Ytmipkngikimjgaa.Mods Go.Proofs.Ytmipkngikimjgaa.Ans Go.Proofs.Ytmipkngikimjgaa.Ord
set_option linter.unusedVariables false

/-- How many words they take. -/
def odsC (K : List Od) : Nat := K.length + tot odC K
def ansC (K : List An) : Nat := K.length + tot anC K

set_option maxRecDepth 100000 in
set_option maxHeartbeats 1000000 in
theorem big0 (a0 : Option Addr) (l0 c0 : Nat) (K0 : List Od) (a1 : Option Addr) (l1 c1 : Nat) (K1 : List An) (t : Int) (w : World) (q0 : RdG 6 odS w 0 w.heap.size (.slice a0 l0 c0) K0) (o0 : ∀ k ∈ K0, OdOk k) (q1 : RdG 3 anS w 0 w.heap.size (.slice a1 l1 c1) K1) (hbig : 1048576 < odsC K0) :
    Calls Try.prog 8 #[.slice a0 l0 c0, .slice a1 l1 c1, .int .i64 t] w fun e w' => e = .returned (.bool true) ∧ Below w.heap.size w w' := by
  have HZ : Hid (Calls Try.prog 25 #[.slice a0 l0 c0, .int .i64 1048576] w (RetV w (.int .i64 (-1)))) := Lib.hid (by
    have := szOrderS w (m := 1048576) q0 o0 ⟨by omega, by omega⟩
    unfold left at this
    unfold odsC at hbig
    rwa [if_pos (by omega)] at this)
  clear q0 q1 o0 hbig
  go_enter Try.func8, Try.ntmps8
  go_wp2_with fail
  refine HZ.out.mono ?_
  rintro e w1 ⟨rfl, hb1⟩
  have HB1 := Lib.hid hb1
  clear hb1
  go_wp2
  go_ret
  exact ⟨rfl, HB1.out⟩

set_option maxRecDepth 100000 in
set_option maxHeartbeats 1000000 in
theorem big1 (a0 : Option Addr) (l0 c0 : Nat) (K0 : List Od) (a1 : Option Addr) (l1 c1 : Nat) (K1 : List An) (t : Int) (w : World) (q0 : RdG 6 odS w 0 w.heap.size (.slice a0 l0 c0) K0) (o0 : ∀ k ∈ K0, OdOk k) (q1 : RdG 3 anS w 0 w.heap.size (.slice a1 l1 c1) K1) (h0 : odsC K0 ≤ 1048576) (hbig : 1048576 < odsC K0 + ansC K1) :
    Calls Try.prog 8 #[.slice a0 l0 c0, .slice a1 l1 c1, .int .i64 t] w fun e w' => e = .returned (.bool true) ∧ Below w.heap.size w w' := by
  obtain ⟨p, hp⟩ : ∃ p : Int, p = 1048576 - (odsC K0 : Int) := ⟨_, rfl⟩
  have hp0 : 0 ≤ p := by omega
  have HZ : Hid (Calls Try.prog 25 #[.slice a0 l0 c0, .int .i64 1048576] w (RetV w (.int .i64 p))) := Lib.hid (by
    have := szOrderS w (m := 1048576) q0 o0 ⟨by omega, by omega⟩
    rw [hp]
    unfold odsC at h0 hp ⊢
    unfold left at this
    rwa [if_neg (by omega)] at this)
  have HY : Hid (∀ w1 : World, Below w.heap.size w w1 → Calls Try.prog 26 #[.slice a1 l1 c1, .int .i64 p] w1 (RetV w1 (.int .i64 (-1)))) := Lib.hid (fun w1 hb => by
    have := szAnswerS w1 (m := p) (q1.below shAn hb) ⟨by omega, by omega⟩
    unfold left at this
    unfold ansC at hbig
    rwa [if_pos (by omega)] at this)
  clear q0 q1 o0 hbig hp h0
  go_enter Try.func8, Try.ntmps8
  go_wp2_with fail
  refine HZ.out.mono ?_
  rintro e w1 ⟨rfl, hb1⟩
  have HB1 := Lib.hid hb1
  clear hb1
  go_wp2_with fail
  refine (HY.out _ HB1.out).mono ?_
  rintro e w2 ⟨rfl, hb2⟩
  have HB2 := Lib.hid (below_then HB1.out hb2 (Nat.le_refl _))
  clear hb2
  go_wp2
  go_ret
  exact ⟨rfl, HB2.out⟩

set_option maxRecDepth 100000 in
set_option maxHeartbeats 4000000 in
theorem small (a0 : Option Addr) (l0 c0 : Nat) (K0 : List Od) (a1 : Option Addr) (l1 c1 : Nat) (K1 : List An) (t : Int) (w : World) (q0 : RdG 6 odS w 0 w.heap.size (.slice a0 l0 c0) K0) (o0 : ∀ k ∈ K0, OdOk k) (q1 : RdG 3 anS w 0 w.heap.size (.slice a1 l1 c1) K1) (h0 : odsC K0 + ansC K1 ≤ 1048576)
    (Impl : ∀ (w : World) (lo hi lo2 hi2 : Nat) (va vb : Value), RdG 6 odS w lo hi va K0 → RdG 3 anS w lo2 hi2 vb K1 → K0.length ≤ 1048576 → K1.length ≤ 1048576 → (∀ k ∈ K1, anC k ≤ 1048576) → Calls Try.prog 30 #[va, vb, .int .i64 t] w (fun e w' => ∃ v, e = .returned v ∧ OwnA w' w.heap.size w'.heap.size v (heard t (K0.zip K1)) ∧ Below w.heap.size w w')) :
    Calls Try.prog 8 #[.slice a0 l0 c0, .slice a1 l1 c1, .int .i64 t] w fun e w' => e = .returned (.bool true) ∧ Below w.heap.size w w' := by
  obtain ⟨p, hp⟩ : ∃ p : Int, p = 1048576 - (odsC K0 : Int) := ⟨_, rfl⟩
  obtain ⟨q, hq⟩ : ∃ q : Int, q = p - (ansC K1 : Int) := ⟨_, rfl⟩
  have hp0 : 0 ≤ p := by omega
  have hq0 : 0 ≤ q := by omega
  have HZ : Hid (Calls Try.prog 25 #[.slice a0 l0 c0, .int .i64 1048576] w (RetV w (.int .i64 p))) := Lib.hid (by
    have := szOrderS w (m := 1048576) q0 o0 ⟨by omega, by omega⟩
    rw [hp]
    unfold odsC at h0 hp ⊢
    unfold left at this
    rwa [if_neg (by omega)] at this)
  have HY : Hid (∀ w1 : World, Below w.heap.size w w1 → Calls Try.prog 26 #[.slice a1 l1 c1, .int .i64 p] w1 (RetV w1 (.int .i64 q))) := Lib.hid (fun w1 hb => by
    have := szAnswerS w1 (m := p) (q1.below shAn hb) ⟨by omega, by omega⟩
    rw [hq]
    unfold left at this
    unfold ansC at h0 hq ⊢
    rwa [if_neg (by omega)] at this)
  have hL0 : K0.length ≤ 1048576 := by unfold odsC at h0; omega
  have hL1 : K1.length ≤ 1048576 := by unfold ansC at h0; omega
  have hT1 : K1.length + tot anC K1 ≤ 1048576 := by unfold ansC at h0; omega
  have hF1 : ∀ k ∈ K1, anC k ≤ 1048576 := fun k hk => by have := one_le_tot (c := anC) hk; omega
  obtain ⟨H, hH⟩ : ∃ H, H = heard t (K0.zip K1) := ⟨_, rfl⟩
  have hTH : H.length + tot anC H ≤ 1048576 := by rw [hH]; exact Nat.le_trans (heard_le t K0 K1) hT1
  have HR0 := Lib.hid q0; have HR1 := Lib.hid q1
  have HL0 := Lib.hid hL0; have HL1 := Lib.hid hL1; have HT1' := Lib.hid hT1; have HF1 := Lib.hid hF1; have HTH := Lib.hid hTH
  have HP : Hid (∀ (w1 : World) (lo hi lo2 hi2 : Nat) (va vb : Value), RdG 6 odS w1 lo hi va K0 → RdG 3 anS w1 lo2 hi2 vb K1 → Calls Try.prog 27 #[va, vb, .int .i64 t] w1 (fun e w' => ∃ v, e = .returned v ∧ OwnA w' w1.heap.size w'.heap.size v H ∧ Below w1.heap.size w1 w')) := Lib.hid (fun w1 lo hi lo2 hi2 va vb ha hb => (HeardS.heardBy w1 ha hb hL1 hF1).mono (by
    rintro e w' ⟨v, rfl, h⟩
    rw [hH]
    exact ⟨v, rfl, h.own, h.below⟩))
  have HI : Hid (∀ (w1 : World) (lo hi lo2 hi2 : Nat) (va vb : Value), RdG 6 odS w1 lo hi va K0 → RdG 3 anS w1 lo2 hi2 vb K1 → Calls Try.prog 30 #[va, vb, .int .i64 t] w1 (fun e w' => ∃ v, e = .returned v ∧ OwnA w' w1.heap.size w'.heap.size v H ∧ Below w1.heap.size w1 w')) := Lib.hid (fun w1 lo hi lo2 hi2 va vb ha hb => by
    rw [hH]
    exact Impl w1 lo hi lo2 hi2 va vb ha hb hL0 hL1 hF1)
  obtain ⟨zo, hzo⟩ : ∃ z, z = 1 + 6 * K0.length := ⟨_, rfl⟩
  have HZO : Hid (zo ≤ 16777216) := Lib.hid (by omega)
  have HMO : Hid (∀ (w1 : World) (lo hi : Nat) (v : Value), Raw w1 lo hi v K0.length → Calls Try.prog 33 #[v, .int .i64 1] w1 (fun e w' => e = .returned (.int .i64 (zo : Int)) ∧ OnlyIn lo hi w1 w')) := Lib.hid (fun w1 lo hi v h => by rw [hzo]; exact markOrderS w1 (s := 1) h hL0 (by omega))
  obtain ⟨za, hza⟩ : ∃ z, z = zo + anN K1 := ⟨_, rfl⟩
  have HMA : Hid (∀ (w1 : World) (lo hi : Nat) (v : Value), OwnA w1 lo hi v K1 → Calls Try.prog 34 #[v, .int .i64 (zo : Int)] w1 (fun e w' => e = .returned (.int .i64 (za : Int)) ∧ OwnA w' lo hi v (anMarks zo K1) ∧ OnlyIn lo hi w1 w')) := Lib.hid (fun w1 lo hi v h => by rw [hza]; exact markAnswerS w1 (s := zo) h hT1 HZO.out)
  obtain ⟨zg, hzg⟩ : ∃ z, z = 1 + anN H := ⟨_, rfl⟩
  have HMG : Hid (∀ (w1 : World) (lo hi : Nat) (v : Value), OwnA w1 lo hi v H → Calls Try.prog 34 #[v, .int .i64 1] w1 (fun e w' => e = .returned (.int .i64 (zg : Int)) ∧ OwnA w' lo hi v (anMarks 1 H) ∧ OnlyIn lo hi w1 w')) := Lib.hid (fun w1 lo hi v h => by rw [hzg]; exact markAnswerS w1 (s := 1) h hTH (by omega))
  have HHG : Hid (∀ (w1 : World) (lo hi : Nat) (v : Value), RdG 3 anS w1 lo hi v (anMarks 1 H) → Calls Try.prog 35 #[v, .int .i64 1] w1 (RetV w1 (.int .i64 (zg : Int)))) := Lib.hid (fun w1 lo hi v h => by rw [hzg]; exact heldAnswerS w1 (s := 1) h hTH (by omega))
  have hge : (((zg : Int)) != ((zg : Int))) = false := by simp
  clear q0 q1 o0 h0 hp hq hL0 hL1 hT1 hF1 hH hTH Impl hzo hza hzg HTH HT1'
  go_enter Try.func8, Try.ntmps8
  go_wp2_with fail
  refine (HZ.out).mono ?_
  rintro e w1 ⟨rfl, hb1⟩
  have HB1 := Lib.hid hb1; have HS1 := Lib.hid hb1.size; clear hb1
  go_wp2_with fail
  refine (HY.out _ HB1.out).mono ?_
  rintro e w2 ⟨rfl, hb2⟩
  have HB2 := Lib.hid hb2; have HS2 := Lib.hid hb2.size; clear hb2
  go_wp2_with fail
  refine (toOrderS w2 ((HR0.out.below shOd HB1.out).below shOd HB2.out) HL0.out).mono ?_
  rintro e w3 ⟨v3, rfl, ho3, hb3⟩
  have HO3 := Lib.hid ho3; have HB3 := Lib.hid hb3; have HS3 := Lib.hid hb3.size; clear ho3 hb3
  go_wp2_with fail
  refine (toAnswerS w3 (((HR1.out.below shAn HB1.out).below shAn HB2.out).below shAn HB3.out) HL1.out HF1.out).mono ?_
  rintro e w4 ⟨v4, rfl, ho4, hb4⟩
  have HO4 := Lib.hid ho4; have HB4 := Lib.hid hb4; have HS4 := Lib.hid hb4.size; clear ho4 hb4
  go_wp2_with fail
  refine (HP.out w4 _ _ _ _ _ _ (HO3.out.below HB4.out).rd HO4.out.rd).mono ?_
  rintro e w5 ⟨v5, rfl, ho5, hb5⟩
  have HO5 := Lib.hid ho5; have HB5 := Lib.hid hb5; have HS5 := Lib.hid hb5.size; clear ho5 hb5
  go_wp2_with fail
  refine (toOrderS w5 (((((HR0.out.below shOd HB1.out).below shOd HB2.out).below shOd HB3.out).below shOd HB4.out).below shOd HB5.out) HL0.out).mono ?_
  rintro e w6 ⟨v6, rfl, ho6, hb6⟩
  have HO6 := Lib.hid ho6; have HB6 := Lib.hid hb6; have HS6 := Lib.hid hb6.size; clear ho6 hb6
  go_wp2_with fail
  refine (toAnswerS w6 ((((((HR1.out.below shAn HB1.out).below shAn HB2.out).below shAn HB3.out).below shAn HB4.out).below shAn HB5.out).below shAn HB6.out) HL1.out HF1.out).mono ?_
  rintro e w7 ⟨v7, rfl, ho7, hb7⟩
  have HO7 := Lib.hid ho7; have HB7 := Lib.hid hb7; have HS7 := Lib.hid hb7.size; clear ho7 hb7
  go_wp2_with fail
  refine (HI.out w7 _ _ _ _ _ _ (HO6.out.below HB7.out).rd HO7.out.rd).mono ?_
  rintro e w8 ⟨v8, rfl, ho8, hb8⟩
  have HO8 := Lib.hid ho8; have HB8 := Lib.hid hb8; have HS8 := Lib.hid hb8.size; clear ho8 hb8
  go_wp2_with fail
  refine (eqAnswerS_same w8 HO8.out.rd (((HO5.out.below HB6.out).below HB7.out).below HB8.out).rd).mono ?_
  rintro e w9 ⟨rfl, hb9⟩
  have HB9 := Lib.hid hb9; have HS9 := Lib.hid hb9.size; clear hb9
  go_wp2_with fail
  refine (toOrderS w9 (((((((((HR0.out.below shOd HB1.out).below shOd HB2.out).below shOd HB3.out).below shOd HB4.out).below shOd HB5.out).below shOd HB6.out).below shOd HB7.out).below shOd HB8.out).below shOd HB9.out) HL0.out).mono ?_
  rintro e w10 ⟨v10, rfl, ho10, hb10⟩
  have HO10 := Lib.hid ho10; have HB10 := Lib.hid hb10; have HS10 := Lib.hid hb10.size; clear ho10 hb10
  go_wp2_with fail
  refine (eqOrderS_same w10 ((((HO6.out.below HB7.out).below HB8.out).below HB9.out).below HB10.out).rd HO10.out.rd).mono ?_
  rintro e w11 ⟨rfl, hb11⟩
  have HB11 := Lib.hid hb11; have HS11 := Lib.hid hb11.size; clear hb11
  go_wp2_with fail
  refine (toAnswerS w11 (((((((((((HR1.out.below shAn HB1.out).below shAn HB2.out).below shAn HB3.out).below shAn HB4.out).below shAn HB5.out).below shAn HB6.out).below shAn HB7.out).below shAn HB8.out).below shAn HB9.out).below shAn HB10.out).below shAn HB11.out) HL1.out HF1.out).mono ?_
  rintro e w12 ⟨v12, rfl, ho12, hb12⟩
  have HO12 := Lib.hid ho12; have HB12 := Lib.hid hb12; have HS12 := Lib.hid hb12.size; clear ho12 hb12
  go_wp2_with fail
  refine (eqAnswerS_same w12 (((((HO7.out.below HB8.out).below HB9.out).below HB10.out).below HB11.out).below HB12.out).rd HO12.out.rd).mono ?_
  rintro e w13 ⟨rfl, hb13⟩
  have HB13 := Lib.hid hb13; have HS13 := Lib.hid hb13.size; clear hb13
  go_wp2_with fail
  refine (HMO.out w13 _ _ _ (((((((HO6.out.below HB7.out).below HB8.out).below HB9.out).below HB10.out).below HB11.out).below HB12.out).below HB13.out).raw).mono ?_
  rintro e w14 ⟨rfl, ht14⟩
  have HT14 := Lib.hid ht14; have HS14 := Lib.hid ht14.size; clear ht14
  go_wp2_with fail
  refine (HMA.out w14 _ _ _ (((((((HO7.out.below HB8.out).below HB9.out).below HB10.out).below HB11.out).below HB12.out).below HB13.out).touch HT14.out (.inr (Nat.le_refl _)))).mono ?_
  rintro e w15 ⟨rfl, ho15, ht15⟩
  have HO15 := Lib.hid ho15; have HT15 := Lib.hid ht15; have HS15 := Lib.hid ht15.size; clear ho15 ht15
  go_wp2_with fail
  refine (eqAnswerS_same w15 (((((((HO8.out.below HB9.out).below HB10.out).below HB11.out).below HB12.out).below HB13.out).touch HT14.out (.inr HS7.out)).touch HT15.out (.inr (Nat.le_refl _))).rd ((((((((((HO5.out.below HB6.out).below HB7.out).below HB8.out).below HB9.out).below HB10.out).below HB11.out).below HB12.out).below HB13.out).touch HT14.out (.inl (Nat.le_refl _))).touch HT15.out (.inl HS6.out)).rd).mono ?_
  rintro e w16 ⟨rfl, hb16⟩
  have HB16 := Lib.hid hb16; have HS16 := Lib.hid hb16.size; clear hb16
  go_wp2_with fail
  refine (HMG.out w16 _ _ _ ((((((((HO8.out.below HB9.out).below HB10.out).below HB11.out).below HB12.out).below HB13.out).touch HT14.out (.inr HS7.out)).touch HT15.out (.inr (Nat.le_refl _))).below HB16.out)).mono ?_
  rintro e w17 ⟨rfl, ho17, ht17⟩
  have HO17 := Lib.hid ho17; have HT17 := Lib.hid ht17; have HS17 := Lib.hid ht17.size; clear ho17 ht17
  go_wp2_with fail
  refine (HHG.out w17 _ _ _ HO17.out.rd).mono ?_
  rintro e w18 ⟨rfl, hb18⟩
  have HB18 := Lib.hid hb18; have HS18 := Lib.hid hb18.size; clear hb18
  go_wp2_with fail
  refine (toOrderS w18 ((((((((((((((((((HR0.out.below shOd HB1.out).below shOd HB2.out).below shOd HB3.out).below shOd HB4.out).below shOd HB5.out).below shOd HB6.out).below shOd HB7.out).below shOd HB8.out).below shOd HB9.out).below shOd HB10.out).below shOd HB11.out).below shOd HB12.out).below shOd HB13.out).touch shOd HT14.out (.inl (Nat.le_trans (Nat.le_trans (Nat.le_trans (Nat.le_trans HS1.out HS2.out) HS3.out) HS4.out) HS5.out))).touch shOd HT15.out (.inl (Nat.le_trans (Nat.le_trans (Nat.le_trans (Nat.le_trans (Nat.le_trans HS1.out HS2.out) HS3.out) HS4.out) HS5.out) HS6.out))).below shOd HB16.out).touch shOd HT17.out (.inl (Nat.le_trans (Nat.le_trans (Nat.le_trans (Nat.le_trans (Nat.le_trans (Nat.le_trans HS1.out HS2.out) HS3.out) HS4.out) HS5.out) HS6.out) HS7.out))).below shOd HB18.out) HL0.out).mono ?_
  rintro e w19 ⟨v19, rfl, ho19, hb19⟩
  have HO19 := Lib.hid ho19; have HB19 := Lib.hid hb19; have HS19 := Lib.hid hb19.size; clear ho19 hb19
  go_wp2_with fail
  refine (toAnswerS w19 (((((((((((((((((((HR1.out.below shAn HB1.out).below shAn HB2.out).below shAn HB3.out).below shAn HB4.out).below shAn HB5.out).below shAn HB6.out).below shAn HB7.out).below shAn HB8.out).below shAn HB9.out).below shAn HB10.out).below shAn HB11.out).below shAn HB12.out).below shAn HB13.out).touch shAn HT14.out (.inl (Nat.le_trans (Nat.le_trans (Nat.le_trans (Nat.le_trans HS1.out HS2.out) HS3.out) HS4.out) HS5.out))).touch shAn HT15.out (.inl (Nat.le_trans (Nat.le_trans (Nat.le_trans (Nat.le_trans (Nat.le_trans HS1.out HS2.out) HS3.out) HS4.out) HS5.out) HS6.out))).below shAn HB16.out).touch shAn HT17.out (.inl (Nat.le_trans (Nat.le_trans (Nat.le_trans (Nat.le_trans (Nat.le_trans (Nat.le_trans HS1.out HS2.out) HS3.out) HS4.out) HS5.out) HS6.out) HS7.out))).below shAn HB18.out).below shAn HB19.out) HL1.out HF1.out).mono ?_
  rintro e w20 ⟨v20, rfl, ho20, hb20⟩
  have HO20 := Lib.hid ho20; have HB20 := Lib.hid hb20; have HS20 := Lib.hid hb20.size; clear ho20 hb20
  go_wp2_with fail
  refine (HI.out w20 _ _ _ _ _ _ (HO19.out.below HB20.out).rd HO20.out.rd).mono ?_
  rintro e w21 ⟨v21, rfl, ho21, hb21⟩
  have HO21 := Lib.hid ho21; have HB21 := Lib.hid hb21; have HS21 := Lib.hid hb21.size; clear ho21 hb21
  go_wp2_with fail
  refine (eqAnswerS_same w21 HO21.out.rd ((((((((((((((((HO5.out.below HB6.out).below HB7.out).below HB8.out).below HB9.out).below HB10.out).below HB11.out).below HB12.out).below HB13.out).touch HT14.out (.inl (Nat.le_refl _))).touch HT15.out (.inl HS6.out)).below HB16.out).touch HT17.out (.inl (Nat.le_trans HS6.out HS7.out))).below HB18.out).below HB19.out).below HB20.out).below HB21.out).rd).mono ?_
  rintro e w22 ⟨rfl, hb22⟩
  have HB22 := Lib.hid hb22; have HS22 := Lib.hid hb22.size; clear hb22
  go_wp2_with fail
  refine (HHG.out w22 _ _ _ (((((HO17.out.below HB18.out).below HB19.out).below HB20.out).below HB21.out).below HB22.out).rd).mono ?_
  rintro e w23 ⟨rfl, hb23⟩
  have HB23 := Lib.hid hb23; have HS23 := Lib.hid hb23.size; clear hb23
  go_wp2
  go_ret
  exact ⟨rfl, (below_then (below_then (below_then (below_then (below_then (below_then (below_touch (below_then (below_touch (below_touch (below_then (below_then (below_then (below_then (below_then (below_then (below_then (below_then (below_then (below_then (below_then (below_then (below_then (Below.refl _ _) HB1.out (Nat.le_refl _)) HB2.out (Nat.le_refl _)) HB3.out (Nat.le_refl _)) HB4.out (Nat.le_refl _)) HB5.out (Nat.le_refl _)) HB6.out (Nat.le_refl _)) HB7.out (Nat.le_refl _)) HB8.out (Nat.le_refl _)) HB9.out (Nat.le_refl _)) HB10.out (Nat.le_refl _)) HB11.out (Nat.le_refl _)) HB12.out (Nat.le_refl _)) HB13.out (Nat.le_refl _)) HT14.out (Nat.le_trans (Nat.le_trans (Nat.le_trans (Nat.le_trans HS1.out HS2.out) HS3.out) HS4.out) HS5.out) (Nat.le_refl _)) HT15.out (Nat.le_trans (Nat.le_trans (Nat.le_trans (Nat.le_trans (Nat.le_trans HS1.out HS2.out) HS3.out) HS4.out) HS5.out) HS6.out) (Nat.le_refl _)) HB16.out (Nat.le_refl _)) HT17.out (Nat.le_trans (Nat.le_trans (Nat.le_trans (Nat.le_trans (Nat.le_trans (Nat.le_trans HS1.out HS2.out) HS3.out) HS4.out) HS5.out) HS6.out) HS7.out) (Nat.le_refl _)) HB18.out (Nat.le_refl _)) HB19.out (Nat.le_refl _)) HB20.out (Nat.le_refl _)) HB21.out (Nat.le_refl _)) HB22.out (Nat.le_refl _)) HB23.out (Nat.le_refl _))⟩
end Go.Proofs.Ytmipkngikimjgaa.HeardL

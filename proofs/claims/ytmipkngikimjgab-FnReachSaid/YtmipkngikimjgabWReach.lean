/-
  FnReach: whatever web is drawn, the program answers as the model does; what is reached is rooted, or referred to by what is reached. No condition.
-/
import Derived.Test.YtmipkngikimjgabDraw6
import Derived.Test.YtmipkngikimjgabReachI
import Derived.Test.YtmipkngikimjgabReachT
import Derived.Test.YtmipkngikimjgabIn
import Derived.BigQuiet
namespace Go.Proofs.Ytmipkngikimjgab.fnReachW
open Go.RowKit Go.Proofs.Ytmipkngikimjgab.Mem Go.Proofs.Ytmipkngikimjgab.Pure Go.Proofs.Ytmipkngikimjgab.Help Go.Proofs.Ytmipkngikimjgab.FloorI Go.Proofs.Ytmipkngikimjgab.Seq Go.Proofs.Ytmipkngikimjgab.Ints Go.Proofs.Ytmipkngikimjgab.Webs Go.Proofs.Ytmipkngikimjgab.HelpK Go.Proofs.Ytmipkngikimjgab.Draw6
set_option linter.unusedVariables false

set_option maxHeartbeats 1000000 in
theorem big (w : World) {v : Value} {lo hi : Nat} {L : List Int} (h : Rd w lo hi v L) :
    Calls Try.prog 8 #[v] w fun e w' => e = .returned (.bool (decide (4096 < L.length))) ∧ w = w' := by
  obtain ⟨A, c, rfl, _, hm, _⟩ := h
  unfold maxLen at hm
  go_enter Try.func8, Try.ntmps8
  go_wp2
  go_ret
  refine ⟨?_, rfl⟩
  first | rfl | (simp; omega)

/-- What the test asks of each place of the row. -/
theorem reach_facts {K : List Kn} {i : Nat} (hi : i < (reachP K).length) : webB K = true ∧ reachP K = reachL K ∧ i < K.length ∧
    ∀ k u, K[i]? = some k → (reachP K)[i]? = some u → (k.r = true → u = true) ∧ (u = true → k.t = true) ∧ (u = true → ∀ x ∈ k.f, 0 ≤ x → x.toNat < K.length ∧ (reachP K)[x.toNat]? = some true) := by
  by_cases hW : webB K = true
  · have e : reachP K = reachL K := by unfold reachP; rw [if_pos hW]
    have hin := web_inside hW
    rw [e] at hi ⊢
    rw [reachL_length] at hi
    refine ⟨hW, rfl, hi, fun k u hk hu => ⟨fun hr => ?_, fun ht => ?_, fun ht x hx h0 => ⟨hin i k x hk hx h0, ?_⟩⟩⟩
    · have := (reach_iff hin i).2 (.root hk hr)
      rw [hu] at this
      injection this
    · subst ht
      obtain ⟨k2, hk2, ht2⟩ := reach_there hW ((reach_iff hin i).1 hu)
      rw [hk] at hk2
      injection hk2 with hk2
      rw [hk2]
      exact ht2
    · subst ht
      exact reach_closed hin i k x hu hk hx h0
  · have e : reachP K = [] := by unfold reachP; rw [if_neg hW]
    rw [e] at hi
    simp at hi

set_option maxRecDepth 100000 in
set_option maxHeartbeats 8000000 in
theorem small (a0 : Option Addr) (len0 cap0 : Nat) (z0 : List Int) (w : World) (q0 : IsRow .u8 w a0 len0 cap0 z0) (hs0 : len0 ≤ 4096) :
    Calls Try.prog 3 #[.slice a0 len0 cap0] w fun e w' => e = .returned (.bool true) ∧ Below w.heap.size w w' := by
  have r0 := q0.rd
  have hlen0 := q0.len
  have hy0 := q0.byt
  obtain ⟨C, hC⟩ : ∃ Z, Z = z0.take len0 := ⟨_, rfl⟩
  rw [← hC] at r0 hlen0 hy0
  have HR0 := Lib.hid r0; have HL0 : Hid (C.length ≤ 4096) := Lib.hid (by omega); have HY0 := Lib.hid hy0
  have HBIG : Hid (∀ w1 : World, Below w.heap.size w w1 → Calls Try.prog 8 #[.slice a0 len0 cap0] w1 fun e w2 => e = .returned (.bool false) ∧ w1 = w2) := Lib.hid (fun w1 hb => by have := big w1 (r0.below hb); rwa [decide_eq_false (by omega)] at this)
  have HCO : Hid (∀ w1 : World, Calls Try.prog 18 #[.int .i64 7, .int .i64 2] w1 (RetV w1 (.int .i64 15))) := Lib.hid (fun w1 => ReachI.costOf w1 (n := 7) (r := 2) (by unfold I64; omega) (by unfold I64; omega))
  clear r0 hlen0 hy0 hC q0 hs0
  go_enter Try.func3, Try.ntmps3
  go_wp2_with fail
  refine (HBIG.out w (Below.refl _ _)).mono ?_
  rintro e w1 ⟨rfl, rfl⟩
  clear HBIG
  go_wp2_with fail
  refine (drawReached w (HR0.out.more (Nat.le_refl _) (Nat.le_refl _)) HL0.out HY0.out).mono ?_
  rintro e w1 ⟨v1, K1, rfl, ho1, hkl, hkf, hb1⟩
  have HO1 := Lib.hid ho1; have HB1 := Lib.hid hb1; have HS1 := Lib.hid hb1.size
  have hK : K1.length ≤ 1048576 := by omega
  have hF : ∀ k ∈ K1, k.f.length ≤ 1048576 := fun k hk => by have := hkf k hk; omega
  have HI1 := Lib.hid (fun (w' : World) (l0 h0 : Nat) (v0 : Value) (r0 : RdK w' l0 h0 v0 K1) => ReachI.reached w' r0 hK hF)
  have HP1 := Lib.hid (fun (w' : World) (l0 h0 : Nat) (v0 : Value) (r0 : RdK w' l0 h0 v0 K1) => ReachT.reached w' r0 hK hF)
  have HI2 := Lib.hid (fun (w' : World) (l0 h0 : Nat) (v0 : Value) (r0 : RdK w' l0 h0 v0 K1) => ReachI.lostIn w' r0 hK hF)
  have HP2 := Lib.hid (fun (w' : World) (l0 h0 : Nat) (v0 : Value) (r0 : RdK w' l0 h0 v0 K1) => ReachT.lostIn w' r0 hK hF)
  have HI3 := Lib.hid (fun (w' : World) (l0 h0 : Nat) (v0 : Value) (r0 : RdK w' l0 h0 v0 K1) => ReachI.webOk w' r0 hK hF)
  have HP3 := Lib.hid (fun (w' : World) (l0 h0 : Nat) (v0 : Value) (r0 : RdK w' l0 h0 v0 K1) => ReachS.webOk w' r0 hK hF)
  have HKL := Lib.hid hK
  have HFF := Lib.hid (fun (i : Nat) (hi : i < (reachP K1).length) => reach_facts hi)
  obtain ⟨R, hR⟩ : ∃ R, R = reachP K1 := ⟨_, rfl⟩
  have HRL : Hid (R.length ≤ 1048576) := Lib.hid (by rw [hR]; exact Nat.le_trans (reachP_length _) hK)
  rw [← hR] at HI1 HP1 HFF
  obtain ⟨L2, hL2⟩ : ∃ R, R = lostP K1 := ⟨_, rfl⟩
  rw [← hL2] at HI2 HP2
  obtain ⟨B3, hB3⟩ : ∃ R, R = webB K1 := ⟨_, rfl⟩
  rw [← hB3] at HI3 HP3
  clear ho1 hb1 hK hF hkl hkf hR hL2 hB3
  go_wp2_with fail
  refine (HI1.out w1 _ _ _ HO1.out.rd).mono ?_
  rintro e w2 ⟨v2, rfl, ho2, hb2⟩
  have HO2 := Lib.hid ho2; have HB2 := Lib.hid hb2; have HS2 := Lib.hid hb2.size; clear ho2 hb2
  go_wp2_with fail
  refine (HP1.out w2 _ _ _ (HO1.out.below HB2.out).rd).mono ?_
  rintro e w3 ⟨v3, rfl, ho3, hb3⟩
  have HO3 := Lib.hid ho3; have HB3 := Lib.hid hb3; have HS3 := Lib.hid hb3.size; clear ho3 hb3
  go_wp2_with fail
  refine (drawCostOf w3 ((((HR0.out.below HB1.out).below HB2.out).below HB3.out).more (Nat.le_refl _) (Nat.le_trans (Nat.le_trans HS1.out HS2.out) HS3.out)) HL0.out HY0.out).mono ?_
  rintro e w4 ⟨nn, rr, rfl, inn, irr, hb4⟩
  have HB4 := Lib.hid hb4; have HS4 := Lib.hid hb4.size
  have HI4 := Lib.hid (fun w' : World => ReachI.costOf w' inn irr)
  have HP4 := Lib.hid (fun w' : World => ReachS.costOf w' (n := nn) (r := rr))
  obtain ⟨Z4, hZ4⟩ : ∃ R, R = costI nn rr := ⟨_, rfl⟩
  rw [← hZ4] at HI4 HP4
  clear hb4 hZ4 inn irr
  obtain ⟨A2, n2, c2, rfl⟩ := HO2.out.form
  have hn2 : n2 = R.length := by obtain ⟨A', c', hv, _⟩ := HO2.out.rd; injection hv with _ hv2; rw [booR_length] at hv2; exact hv2
  obtain ⟨A3, n3, c3, rfl⟩ := HO3.out.form
  have hn3 : n3 = R.length := by obtain ⟨A', c', hv, _⟩ := HO3.out.rd; injection hv with _ hv2; rw [booR_length] at hv2; exact hv2
  obtain ⟨n, hn⟩ : ∃ n, n = R.length := ⟨_, rfl⟩
  have HN := Lib.hid hn
  rw [← hn] at hn2 hn3
  have hm2 := hn2.symm; have hm3 := hn3.symm; clear hn2 hn3; subst hm2 hm3
  clear hn
  go_wp2_with fail
  refine (HI2.out w4 _ _ _ (((HO1.out.below HB2.out).below HB3.out).below HB4.out).rd).mono ?_
  rintro e w5 ⟨v5, rfl, ho5, hb5⟩
  have HO5 := Lib.hid ho5; have HB5 := Lib.hid hb5; have HS5 := Lib.hid hb5.size; clear ho5 hb5
  go_wp2_with fail
  refine (HP2.out w5 _ _ _ ((((HO1.out.below HB2.out).below HB3.out).below HB4.out).below HB5.out).rd).mono ?_
  rintro e w6 ⟨v6, rfl, ho6, hb6⟩
  have HO6 := Lib.hid ho6; have HB6 := Lib.hid hb6; have HS6 := Lib.hid hb6.size; clear ho6 hb6
  go_wp2_with fail
  refine (likeInts_same w6 (HO5.out.below HB6.out).rd HO6.out.rd).mono ?_
  rintro e w7 ⟨rfl, hb7⟩
  have HB7 := Lib.hid hb7; have HS7 := Lib.hid hb7.size; clear hb7
  go_wp2_with fail
  refine (HI3.out w7 _ _ _ ((((((HO1.out.below HB2.out).below HB3.out).below HB4.out).below HB5.out).below HB6.out).below HB7.out).rd).mono ?_
  rintro e w8 ⟨rfl, hb8⟩
  have HB8 := Lib.hid hb8; have HS8 := Lib.hid hb8.size; clear hb8
  go_wp2_with fail
  refine (HP3.out w8 _ _ _ (((((((HO1.out.below HB2.out).below HB3.out).below HB4.out).below HB5.out).below HB6.out).below HB7.out).below HB8.out).rd).mono ?_
  rintro e w9 ⟨rfl, hb9⟩
  have HB9 := Lib.hid hb9; have HS9 := Lib.hid hb9.size; clear hb9
  go_wp2_with fail
  refine (HI4.out w9).mono ?_
  rintro e w10 ⟨rfl, hb10⟩
  have HB10 := Lib.hid hb10; have HS10 := Lib.hid hb10.size; clear hb10
  go_wp2_with fail
  refine (HP4.out w10).mono ?_
  rintro e w11 ⟨rfl, hb11⟩
  have HB11 := Lib.hid hb11; have HS11 := Lib.hid hb11.size; clear hb11
  have HRR : Hid (RdR w11 0 w11.heap.size 1 (.slice A2 n c2) (booR R)) := Lib.hid (Ints.rdR_all (((((((((HO2.out.below HB3.out).below HB4.out).below HB5.out).below HB6.out).below HB7.out).below HB8.out).below HB9.out).below HB10.out).below HB11.out).rd)
  have HRW : Hid (RdR w11 0 w11.heap.size 1 (.slice A3 n c3) (booR R)) := Lib.hid (Ints.rdR_all ((((((((HO3.out.below HB4.out).below HB5.out).below HB6.out).below HB7.out).below HB8.out).below HB9.out).below HB10.out).below HB11.out).rd)
  have HRK : Hid (RdK w11 0 w11.heap.size v1 K1) := Lib.hid (RdK.all ((((((((((HO1.out.below HB2.out).below HB3.out).below HB4.out).below HB5.out).below HB6.out).below HB7.out).below HB8.out).below HB9.out).below HB10.out).below HB11.out).rd)
  have HBW : Hid (Below w.heap.size w w11) := Lib.hid (below_then (below_then (below_then (below_then (below_then (below_then (below_then (below_then (below_then (below_then (below_then (Below.refl _ _) HB1.out (Nat.le_refl _)) HB2.out (Nat.le_refl _)) HB3.out (Nat.le_refl _)) HB4.out (Nat.le_refl _)) HB5.out (Nat.le_refl _)) HB6.out (Nat.le_refl _)) HB7.out (Nat.le_refl _)) HB8.out (Nat.le_refl _)) HB9.out (Nat.le_refl _)) HB10.out (Nat.le_refl _)) HB11.out (Nat.le_refl _))
  have hn20 : n ≤ 1048576 := by have := HN.out; have := HRL.out; omega
  obtain ⟨A1, c1, rfl, hc1, hm1⟩ := HRK.out.form
  clear HI1 HP1 HI2 HP2 HI3 HP3 HI4 HP4 hc1 hm1
  obtain ⟨m, hm⟩ : ∃ m, m = K1.length := ⟨_, rfl⟩
  have HM := Lib.hid hm
  rw [← hm] at HRK ⊢
  clear hm
  go_wp2_with fail
  go_loopw [8] (fun iv wr => ∃ i : Nat, i ≤ n ∧ iv = .int .i64 i ∧ Hid (Below w11.heap.size w11 wr)) (fun iv _ => n - (intOf iv).toNat)
  case atStart => exact ⟨0, Nat.zero_le _, rfl, Lib.hid (Below.refl _ _)⟩
  case round =>
    obtain ⟨i, hi, rfl, hb⟩ := hrel
    by_cases hin : i < n
    · have HFI := Lib.hid (HFF.out i (by have := HN.out; omega))
      have him : i < m := by have := HFI.out.2.2.1; have := HM.out; omega
      obtain ⟨s, hs⟩ : ∃ s, K1[i]? = some s := ⟨_, List.getElem?_eq_getElem (by have := HM.out; omega)⟩
      obtain ⟨u, hu, hup⟩ := boo_at (L := R) (k := i) (by have := HN.out; omega)
      have HFX := Lib.hid (HFI.out.2.2.2 s u hs hu)
      obtain ⟨br, or, rfl, hbr, z0⟩ := one HRR.out hup
      obtain ⟨bw, ow, rfl, hbw, z1⟩ := one HRW.out hup
      obtain ⟨bk, ok, x, rfl, hbk, c0, cr, cx, hx⟩ := HRK.out.spot hs
      have HXR := Lib.hid hx
      obtain ⟨Ax, cxx, rfl, hcx, hmx, hzz⟩ := hx
      rw [intR_length] at cx HXR hcx
      obtain ⟨t, r, f⟩ := s
      dsimp only at c0 cr cx HXR HFX hcx
      obtain ⟨l, hl⟩ : ∃ l, l = f.length := ⟨_, rfl⟩
      have HL := Lib.hid hl
      rw [← hl] at cx HXR hcx
      have hl63 : l ≤ 9223372036854775807 := by unfold maxLen at hmx; omega
      have HZ0 := Lib.hid z0; have HCX := Lib.hid cx; have HBR := Lib.hid hbr; have HBK := Lib.hid hbk
      have d0 := (hb.out.cell (p := ⟨br, or + i, none⟩) hbr).trans z0
      have d1 := (hb.out.cell (p := ⟨bw, ow + i, none⟩) hbw).trans z1
      have d2 := (hb.out.cell (p := ⟨bk, ok + i * 3, none⟩) hbk).trans c0
      have d3 := (hb.out.cell (p := ⟨bk, ok + i * 3 + 1, none⟩) hbk).trans cr
      clear hs hu hup hcx hmx hzz hl z0 z1 c0 cr cx hbr hbw hbk
      cases u
      · obtain rfl : r = false := by
          cases r
          · rfl
          · exact absurd (HFX.out.1 rfl) (by simp)
        go_wp2_with fail
        go_quiet (fail)
        have HD := Lib.hid (fun q => below_then hb.out (drawn (n := q) (Below.refl _ wr)) (Nat.le_refl _))
        go_wp2_with fail
        go_loopw [9] (fun jv wx => ∃ j : Nat, j ≤ l ∧ jv = .int .i64 j ∧ Hid (Below w11.heap.size w11 wx)) (fun jv _ => l - (intOf jv).toNat)
        case atStart => exact ⟨0, Nat.zero_le _, rfl, HD.out _⟩
        case round =>
          obtain ⟨j, hj, rfl, hbx⟩ := hrel
          have e0 := (hbx.out.cell (p := ⟨br, or + i, none⟩) HBR.out).trans HZ0.out
          have e1 := (hbx.out.cell (p := ⟨bk, ok + i * 3 + 2, none⟩) HBK.out).trans HCX.out
          by_cases hjl : j < l
          · go_wp2
            go_roundw
            case rel => exact ⟨j + 1, by omega, by go_num, hbx⟩
            case measure => simp [intOf]; omega
          · obtain rfl : j = l := by omega
            go_wp2
            go_roundw
            case rel => exact ⟨i + 1, by omega, by go_num, hbx⟩
            case measure => simp [intOf]; omega
      · obtain rfl : t = true := HFX.out.2.1 rfl
        cases r
        · go_wp2_with fail
          go_quiet (fail)
          have HD := Lib.hid (fun q => below_then hb.out (drawn (n := q) (Below.refl _ wr)) (Nat.le_refl _))
          go_wp2_with fail
          go_loopw [9] (fun jv wx => ∃ j : Nat, j ≤ l ∧ jv = .int .i64 j ∧ Hid (Below w11.heap.size w11 wx)) (fun jv _ => l - (intOf jv).toNat)
          case atStart => exact ⟨0, Nat.zero_le _, rfl, HD.out _⟩
          case round =>
            obtain ⟨j, hj, rfl, hbx⟩ := hrel
            have e0 := (hbx.out.cell (p := ⟨br, or + i, none⟩) HBR.out).trans HZ0.out
            have e1 := (hbx.out.cell (p := ⟨bk, ok + i * 3 + 2, none⟩) HBK.out).trans HCX.out
            by_cases hjl : j < l
            · obtain ⟨y, hy, hyp⟩ := int_at (L := f) (k := j) (by have := HL.out; omega)
              obtain ⟨bx, ox, hAx, _, y0⟩ := one (HXR.out.below hbx.out) hyp
              subst hAx
              by_cases hy0 : 0 ≤ y
              · have HYF := Lib.hid (HFX.out.2.2 (by simp) y (List.mem_of_getElem? hy) hy0)
                obtain ⟨yi, rfl⟩ : ∃ yi : Nat, y = (yi : Int) := ⟨y.toNat, by omega⟩
                have hyn : yi < n := by
                  have h1 := (List.getElem?_eq_some_iff.1 HYF.out.2).1
                  have h2 := HN.out
                  have h3 : ((yi : Int)).toNat = yi := rfl
                  omega
                have y1 := oneAt (HRR.out.below hbx.out) (booR_get HYF.out.2)
                rw [show ((yi : Int)).toNat = yi from rfl] at y1
                clear hy hyp
                go_wp2
                go_roundw
                case rel => exact ⟨j + 1, by omega, by go_num, hbx⟩
                case measure => simp [intOf]; omega
              · clear hy hyp
                go_wp2
                go_roundw
                case rel => exact ⟨j + 1, by omega, by go_num, hbx⟩
                case measure => simp [intOf]; omega
            · obtain rfl : j = l := by omega
              go_wp2
              go_roundw
              case rel => exact ⟨i + 1, by omega, by go_num, hbx⟩
              case measure => simp [intOf]; omega
        · go_wp2_with fail
          go_quiet (fail)
          have HD := Lib.hid (fun q => below_then hb.out (drawn (n := q) (Below.refl _ wr)) (Nat.le_refl _))
          go_wp2_with fail
          go_loopw [9] (fun jv wx => ∃ j : Nat, j ≤ l ∧ jv = .int .i64 j ∧ Hid (Below w11.heap.size w11 wx)) (fun jv _ => l - (intOf jv).toNat)
          case atStart => exact ⟨0, Nat.zero_le _, rfl, HD.out _⟩
          case round =>
            obtain ⟨j, hj, rfl, hbx⟩ := hrel
            have e0 := (hbx.out.cell (p := ⟨br, or + i, none⟩) HBR.out).trans HZ0.out
            have e1 := (hbx.out.cell (p := ⟨bk, ok + i * 3 + 2, none⟩) HBK.out).trans HCX.out
            by_cases hjl : j < l
            · obtain ⟨y, hy, hyp⟩ := int_at (L := f) (k := j) (by have := HL.out; omega)
              obtain ⟨bx, ox, hAx, _, y0⟩ := one (HXR.out.below hbx.out) hyp
              subst hAx
              by_cases hy0 : 0 ≤ y
              · have HYF := Lib.hid (HFX.out.2.2 (by simp) y (List.mem_of_getElem? hy) hy0)
                obtain ⟨yi, rfl⟩ : ∃ yi : Nat, y = (yi : Int) := ⟨y.toNat, by omega⟩
                have hyn : yi < n := by
                  have h1 := (List.getElem?_eq_some_iff.1 HYF.out.2).1
                  have h2 := HN.out
                  have h3 : ((yi : Int)).toNat = yi := rfl
                  omega
                have y1 := oneAt (HRR.out.below hbx.out) (booR_get HYF.out.2)
                rw [show ((yi : Int)).toNat = yi from rfl] at y1
                clear hy hyp
                go_wp2
                go_roundw
                case rel => exact ⟨j + 1, by omega, by go_num, hbx⟩
                case measure => simp [intOf]; omega
              · clear hy hyp
                go_wp2
                go_roundw
                case rel => exact ⟨j + 1, by omega, by go_num, hbx⟩
                case measure => simp [intOf]; omega
            · obtain rfl : j = l := by omega
              go_wp2
              go_roundw
              case rel => exact ⟨i + 1, by omega, by go_num, hbx⟩
              case measure => simp [intOf]; omega
    · obtain rfl : i = n := by omega
      have hbb := hb
      go_wp2_with fail
      refine (HCO.out _).mono ?_
      rintro e wz ⟨rfl, hbz⟩
      have HBZ := Lib.hid (below_then (below_then HBW.out hb.out (Nat.le_refl _)) hbz (Nat.le_refl _))
      clear hbz
      go_wp2
      go_ret
      exact ⟨by first | rfl | simp, HBZ.out⟩

set_option maxRecDepth 100000 in
theorem big0 (a0 : Option Addr) (len0 cap0 : Nat) (z0 : List Int) (w : World) (q0 : IsRow .u8 w a0 len0 cap0 z0) (hb0 : 4096 < len0) :
    Calls Try.prog 3 #[.slice a0 len0 cap0] w fun e w' => e = .returned (.bool true) ∧ Below w.heap.size w w' := by
  have r0 := q0.rd
  have hlen0 := q0.len
  have HBIG : Hid (Calls Try.prog 8 #[.slice a0 len0 cap0] w fun e w2 => e = .returned (.bool true) ∧ w = w2) := Lib.hid (by have := big w r0; rwa [decide_eq_true (by omega)] at this)
  clear r0 hlen0 q0 hb0
  go_enter Try.func3, Try.ntmps3
  go_wp2_with fail
  refine HBIG.out.mono ?_
  rintro e w1 ⟨rfl, rfl⟩
  go_wp2
  go_ret
  exact ⟨rfl, Below.refl _ _⟩

theorem walk (a0 : Option Addr) (len0 cap0 : Nat) (z0 : List Int) (w : World) (q0 : IsRow .u8 w a0 len0 cap0 z0) :
    Calls Try.prog 3 #[.slice a0 len0 cap0] w fun e w' => e = .returned (.bool true) ∧ Below w.heap.size w w' := by
  by_cases hs0 : len0 ≤ 4096
  case neg => exact big0 a0 len0 cap0 z0 w q0 (by omega)
  exact small a0 len0 cap0 z0 w q0 hs0
end Go.Proofs.Ytmipkngikimjgab.fnReachW

/-
  The model's chapter 6 (package spec): what each of its functions hands back, in the words of Pure6. Webs of at most 1048576 knots and references.
-/
import Derived.Test.YtmipkngikimjgabHelpK
import Derived.Test.YtmipkngikimjgabFloorS
namespace Go.Proofs.Ytmipkngikimjgab.ReachS
open Go.RowKit Go.Proofs.Ytmipkngikimjgab.Mem Go.Proofs.Ytmipkngikimjgab.Pure Go.Proofs.Ytmipkngikimjgab.Help Go.Proofs.Ytmipkngikimjgab.FloorI Go.Proofs.Ytmipkngikimjgab.Seq Go.Proofs.Ytmipkngikimjgab.Ints Go.Proofs.Ytmipkngikimjgab.Webs Go.Proofs.Ytmipkngikimjgab.HelpK
set_option linter.unusedVariables false

theorem web_bad {K : List Kn} {k : Nat} {s : Kn} (hs : K[k]? = some s) (hb : knBad K s = true) : webB K = false := by
  unfold webB
  rw [List.any_eq_true.2 ⟨s, List.mem_of_getElem? hs, hb⟩]
  rfl
theorem web_good {K : List Kn} (hb : ∀ (j : Nat) (x : Kn), j < K.length → K[j]? = some x → knBad K x = false) : webB K = decide (K.length ≤ 16) := by
  unfold webB
  have h1 : K.any (knBad K) = false := by
    rw [List.any_eq_false]
    intro x hx
    obtain ⟨j, hj, rfl⟩ := List.getElem_of_mem hx
    simp [hb j _ hj (List.getElem?_eq_getElem hj)]
  rw [h1]
  rfl
theorem kn_ref {K : List Kn} {s : Kn} {a : Nat} {y : Int} (hy : s.f[a]? = some y) (hb : refBad K y = true) : knBad K s = true := by
  unfold knBad
  rw [List.any_eq_true.2 ⟨y, List.mem_of_getElem? hy, hb⟩, Bool.or_true]
theorem kn_head {K : List Kn} {s : Kn} (hb : (decide (6 < s.f.length) || (!s.t && (s.r || decide (0 < s.f.length)))) = true) : knBad K s = true := by
  unfold knBad
  rw [hb, Bool.true_or]
theorem kn_good {K : List Kn} {s : Kn} (hh : (decide (6 < s.f.length) || (!s.t && (s.r || decide (0 < s.f.length)))) = false) (hb : ∀ (a : Nat) (y : Int), a < s.f.length → s.f[a]? = some y → refBad K y = false) : knBad K s = false := by
  unfold knBad
  have h1 : s.f.any (refBad K) = false := by
    rw [List.any_eq_false]
    intro x hx
    obtain ⟨j, hj, rfl⟩ := List.getElem_of_mem hx
    simp [hb j _ hj (List.getElem?_eq_getElem hj)]
  rw [hh, h1]
  rfl

set_option maxHeartbeats 8000000 in
theorem webOk (w : World) {lo hi : Nat} {v : Value} {K : List Kn} (h : RdK w lo hi v K) (hK : K.length ≤ 1048576) (hF : ∀ k ∈ K, k.f.length ≤ 1048576) :
    Calls Try.prog 17 #[v] w (RetV w (.bool (webB K))) := by
  have HR := Lib.hid h.all
  have HFL := Lib.hid hF
  obtain ⟨A, c, rfl, hc, hm⟩ := h.form
  clear h hc hm hF
  obtain ⟨n, hn⟩ : ∃ n, n = K.length := ⟨_, rfl⟩
  have HN := Lib.hid hn
  rw [← hn] at HR hK ⊢
  have hnm : n ≤ 9223372036854775807 := by omega
  obtain ⟨X, hX⟩ : ∃ X, X = webB K := ⟨_, rfl⟩
  have HX := Lib.hid hX
  rw [← hX]
  clear hn hX
  go_enter Try.func17, Try.ntmps17
  go_wp2_with fail
  go_loopw [3] (fun i wr => ∃ k : Nat, k ≤ n ∧ i = .int .i64 k ∧ Hid (∀ (j : Nat) (x : Kn), j < k → K[j]? = some x → knBad K x = false) ∧ Hid (Below w.heap.size w wr)) (fun i _ => n - (intOf i).toNat)
  case atStart => exact ⟨0, Nat.zero_le _, rfl, Lib.hid (fun j x hj => absurd hj (Nat.not_lt_zero _)), Lib.hid (Below.refl _ _)⟩
  case round =>
    obtain ⟨k, hk, rfl, ho, hb⟩ := hrel
    by_cases hlt : k < n
    · obtain ⟨s, hs⟩ : ∃ s, K[k]? = some s := ⟨_, List.getElem?_eq_getElem (by have := HN.out; omega)⟩
      have HS := Lib.hid hs
      obtain ⟨b, o, x, rfl, hb1, c0, c1, c2, hx⟩ := HR.out.spot hs
      have HB0 := Lib.hid hb1
      have HXR := Lib.hid hx
      have HL0 := Lib.hid (HFL.out s (List.mem_of_getElem? hs))
      obtain ⟨Ax, cx, rfl, hcx, hmx, hzz⟩ := hx
      rw [intR_length] at c2 HXR
      obtain ⟨t, r, f⟩ := s
      dsimp only at c0 c1 c2 HXR HL0
      obtain ⟨l, hl⟩ : ∃ l, l = f.length := ⟨_, rfl⟩
      have HL := Lib.hid hl
      rw [← hl] at c2 HXR HL0
      have hl2 : l ≤ 1048576 := HL0.out
      have HC0 := Lib.hid c0
      have d0 := (hb.out.cell (p := ⟨b, o + k * 3, none⟩) hb1).trans c0
      have d1 := (hb.out.cell (p := ⟨b, o + k * 3 + 1, none⟩) hb1).trans c1
      have d2 := (hb.out.cell (p := ⟨b, o + k * 3 + 2, none⟩) hb1).trans c2
      have HBA : Hid (Below w.heap.size w (wr.alloc (.cells #[.bool t, .bool r, .slice Ax l cx] 36))) := Lib.hid (hb.out.alloc hb.out.size _)
      have HKB : Hid (Blk (wr.alloc (.cells #[.bool t, .bool r, .slice Ax l cx] 36)) wr.heap.size #[.bool t, .bool r, .slice Ax l cx] 36) := Lib.hid (Blk.new wr _ _)
      clear hs hl hzz hcx hmx c0 c1 c2 HC0 hb1
      by_cases h6 : 6 < l
      · have HBAD : Hid (X = false) := Lib.hid (HX.out.trans (web_bad HS.out (kn_head (by simp [HL.out.symm, h6]))))
        go_wp2
        go_ret
        exact ⟨by rw [HBAD.out]; rfl, HBA.out⟩
      · cases t
        · cases r
          · by_cases hl0 : 0 < l
            · have HBAD : Hid (X = false) := Lib.hid (HX.out.trans (web_bad HS.out (kn_head (by simp [HL.out.symm, hl0]))))
              go_wp2
              go_ret
              exact ⟨by rw [HBAD.out]; rfl, HBA.out⟩
            · obtain rfl : l = 0 := by omega
              have HHD : Hid ((decide (6 < f.length) || (!false && (false || decide (0 < f.length)))) = false) := Lib.hid (by simp [HL.out.symm])
              have HGD : Hid (knBad K _ = false) := Lib.hid (kn_good (s := ⟨false, false, f⟩) HHD.out (fun a y ha hya => absurd (show a < f.length from ha) (by have := HL.out; omega)))
              clear h6 hl0 HL0 hl2
              go_wp2_with fail
              go_loopw [5] (fun jv wx => jv = .int .i64 0 ∧ Hid (Blk wx wr.heap.size #[.bool false, .bool false, .slice Ax 0 cx] 36) ∧ Hid (Below w.heap.size w wx)) (fun jv _ => 0)
              case atStart => exact ⟨rfl, HKB, HBA⟩
              case round =>
                obtain ⟨rfl, hkb, hbx⟩ := hrel
                obtain ⟨⟨e0, e1, e2⟩, _⟩ := blk3 hkb.out
                go_wp2
                go_roundw
                case rel => exact ⟨k + 1, by omega, by go_num, Lib.hid (fun a x ha hxa => by
                  by_cases hak : a = k
                  · subst hak
                    rw [HS.out] at hxa
                    injection hxa with hxa
                    rw [← hxa]
                    exact HGD.out
                  · exact ho.out a x (by omega) hxa), hbx⟩
                case measure => simp [intOf]; omega
          · have hT : True := trivial
            have HBAD : Hid (X = false) := Lib.hid (HX.out.trans (web_bad HS.out (kn_head (by simp [HL.out.symm, h6]))))
            go_wp2
            go_ret
            exact ⟨by rw [HBAD.out]; rfl, HBA.out⟩
        · have hT : True := trivial
          have HHD : Hid ((decide (6 < f.length) || (!true && (r || decide (0 < f.length)))) = false) := Lib.hid (by simp [HL.out.symm, h6])
          go_wp2_with fail
          go_loopw [5] (fun jv wx => ∃ j : Nat, j ≤ l ∧ jv = .int .i64 j ∧ Hid (∀ (a : Nat) (y : Int), a < j → f[a]? = some y → refBad K y = false) ∧ Hid (Blk wx wr.heap.size #[.bool true, .bool r, .slice Ax l cx] 36) ∧ Hid (Below w.heap.size w wx)) (fun jv _ => l - (intOf jv).toNat)
          case atStart => exact ⟨0, Nat.zero_le _, rfl, Lib.hid (fun j x hj => absurd hj (Nat.not_lt_zero _)), HKB, HBA⟩
          case round =>
            obtain ⟨j, hj, rfl, hoj, hkb, hbx⟩ := hrel
            obtain ⟨⟨e0, e1, e2⟩, _⟩ := blk3 hkb.out
            by_cases hjl : j < l
            · obtain ⟨y, hy, hyp⟩ := int_at (L := f) (k := j) (by have := HL.out; omega)
              have HY := Lib.hid hy
              obtain ⟨bx, ox, hAx, _, z0⟩ := one (HXR.out.below hbx.out) hyp
              subst hAx
              have HIN := Lib.hid (fun w' : World => FloorS.l1In w' (x := y) (a := -1) (b := (n : Int) - 1))
              clear hy hyp
              by_cases hy1 : -1 ≤ y ∧ y ≤ (n : Int) - 1
              · rw [decide_eq_true hy1] at HIN
                obtain ⟨hy2, hy3⟩ := hy1
                by_cases hy0 : 0 ≤ y
                · obtain ⟨yi, rfl⟩ : ∃ yi : Nat, y = (yi : Int) := ⟨y.toNat, by omega⟩
                  have hyn : yi < n := by omega
                  obtain ⟨s2, hs2⟩ : ∃ s2, K[yi]? = some s2 := ⟨_, List.getElem?_eq_getElem (by have := HN.out; omega)⟩
                  obtain ⟨b', o', x', hA', _, q0, _⟩ := (HR.out.below hbx.out).spot hs2
                  injection hA' with hA'
                  injection hA' with eb eo
                  subst eb eo
                  obtain ⟨t2, r2, f2⟩ := s2
                  dsimp only at q0
                  have HS2 := Lib.hid hs2
                  clear hs2
                  cases t2
                  · have HBAD : Hid (X = false) := Lib.hid (HX.out.trans (web_bad HS.out (kn_ref HY.out (by
                      have h1 := HS2.out
                      have h2 : K[((yi : Int)).toNat]? = K[yi]? := rfl
                      simp [refBad, thereK, h1]))))
                    go_wp2_with fail
                    refine (HIN.out _).mono ?_
                    rintro e w1 ⟨rfl, rfl⟩
                    go_wp2
                    go_ret
                    exact ⟨by rw [HBAD.out]; rfl, hbx.out⟩
                  · have HGD : Hid (refBad K (yi : Int) = false) := Lib.hid (by
                      have h1 := HS2.out
                      have h2 := HN.out
                      simp [refBad, thereK, h1]
                      omega)
                    go_wp2_with fail
                    refine (HIN.out _).mono ?_
                    rintro e w1 ⟨rfl, rfl⟩
                    go_wp2
                    go_roundw
                    case rel => exact ⟨j + 1, by omega, by go_num, Lib.hid (fun a y ha hya => by
                      by_cases haj : a = j
                      · subst haj
                        rw [HY.out] at hya
                        injection hya with hya
                        rw [← hya]
                        exact HGD.out
                      · exact hoj.out a y (by omega) hya), hkb, hbx⟩
                    case measure => simp [intOf]; omega
                · have HGD : Hid (refBad K y = false) := Lib.hid (by
                    have h2 := HN.out
                    simp [refBad, hy0]
                    omega)
                  go_wp2_with fail
                  refine (HIN.out _).mono ?_
                  rintro e w1 ⟨rfl, rfl⟩
                  go_wp2
                  go_roundw
                  case rel => exact ⟨j + 1, by omega, by go_num, Lib.hid (fun a y ha hya => by
                    by_cases haj : a = j
                    · subst haj
                      rw [HY.out] at hya
                      injection hya with hya
                      rw [← hya]
                      exact HGD.out
                    · exact hoj.out a y (by omega) hya), hkb, hbx⟩
                  case measure => simp [intOf]; omega
              · rw [decide_eq_false hy1] at HIN
                have HBAD : Hid (X = false) := Lib.hid (HX.out.trans (web_bad HS.out (kn_ref HY.out (by
                  have h2 := HN.out
                  rw [h2] at hy1
                  simp [refBad]
                  omega))))
                clear hy1
                go_wp2_with fail
                refine (HIN.out _).mono ?_
                rintro e w1 ⟨rfl, rfl⟩
                go_wp2
                go_ret
                exact ⟨by rw [HBAD.out]; rfl, hbx.out⟩
            · obtain rfl : j = l := by omega
              have HGD : Hid (knBad K _ = false) := Lib.hid (kn_good (s := ⟨true, r, f⟩) HHD.out (fun a y ha hya => hoj.out a y (by have h9 : a < f.length := ha; have := HL.out; omega) hya))
              go_wp2
              go_roundw
              case rel => exact ⟨k + 1, by omega, by go_num, Lib.hid (fun a x ha hxa => by
                by_cases hak : a = k
                · subst hak
                  rw [HS.out] at hxa
                  injection hxa with hxa
                  rw [← hxa]
                  exact HGD.out
                · exact ho.out a x (by omega) hxa), hbx⟩
              case measure => simp [intOf]; omega
    · obtain rfl : k = n := by omega
      have HE : Hid (X = decide (k ≤ 16)) := Lib.hid (HX.out.trans (by rw [web_good (fun j x hj hx => ho.out j x (by have := HN.out; omega) hx), HN.out]))
      have e2 : decide ((k : Int) ≤ 16) = X := by rw [HE.out]; apply decide_eq_decide.2; omega
      have HE2 := Lib.hid e2
      clear e2
      go_wp2
      go_ret
      exact ⟨by rw [← HE2.out]; rfl, hb.out⟩

set_option maxHeartbeats 1000000 in
theorem costOf (w : World) {n r : Int} :
    Calls Try.prog 19 #[.int .i64 n, .int .i64 r] w (RetV w (.int .i64 (costI n r))) := by
  unfold costI
  have HN := Lib.hid (fun w' : World => FloorS.l1In w' (x := n) (a := 0) (b := 200))
  have HR := Lib.hid (fun w' : World => FloorS.l1In w' (x := r) (a := 0) (b := 6))
  by_cases h1 : 0 ≤ n ∧ n ≤ 200
  · rw [decide_eq_true h1] at HN
    by_cases h2 : 0 ≤ r ∧ r ≤ 6
    · rw [decide_eq_true h2] at HR
      rw [if_pos ⟨h1, h2⟩]
      obtain ⟨a1, a2⟩ := h1
      obtain ⟨b1, b2⟩ := h2
      go_enter Try.func19, Try.ntmps19
      go_wp2_with fail
      refine (HN.out _).mono ?_
      rintro e w1 ⟨rfl, rfl⟩
      go_wp2_with fail
      refine (HR.out _).mono ?_
      rintro e w1 ⟨rfl, rfl⟩
      go_wp2
      go_ret
      exact ⟨rfl, Below.refl _ _⟩
    · rw [decide_eq_false h2] at HR
      rw [if_neg (fun h => h2 h.2)]
      clear h1 h2
      go_enter Try.func19, Try.ntmps19
      go_wp2_with fail
      refine (HN.out _).mono ?_
      rintro e w1 ⟨rfl, rfl⟩
      go_wp2_with fail
      refine (HR.out _).mono ?_
      rintro e w1 ⟨rfl, rfl⟩
      go_wp2
      go_ret
      exact ⟨rfl, Below.refl _ _⟩
  · rw [decide_eq_false h1] at HN
    rw [if_neg (fun h => h1 h.1)]
    clear h1
    go_enter Try.func19, Try.ntmps19
    go_wp2_with fail
    refine (HN.out _).mono ?_
    rintro e w1 ⟨rfl, rfl⟩
    go_wp2
    go_ret
    exact ⟨rfl, Below.refl _ _⟩
end Go.Proofs.Ytmipkngikimjgab.ReachS

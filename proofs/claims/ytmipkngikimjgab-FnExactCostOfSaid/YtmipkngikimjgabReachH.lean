/-
  The program's own chapter 6, but for its marks: which webs are right, what a thing costs. Webs of at most 1048576 knots and references, numbers of 64 bits.
-/
import Derived.Test.YtmipkngikimjgabReachS
import Derived.Test.YtmipkngikimjgabHeadI
namespace Go.Proofs.Ytmipkngikimjgab.ReachH
open Go.RowKit Go.Proofs.Ytmipkngikimjgab.Mem Go.Proofs.Ytmipkngikimjgab.Pure Go.Proofs.Ytmipkngikimjgab.Help Go.Proofs.Ytmipkngikimjgab.FloorI Go.Proofs.Ytmipkngikimjgab.Seq Go.Proofs.Ytmipkngikimjgab.Ints Go.Proofs.Ytmipkngikimjgab.Webs Go.Proofs.Ytmipkngikimjgab.ReachS Go.Proofs.Ytmipkngikimjgab.HeadI
set_option linter.unusedVariables false

set_option maxHeartbeats 400000 in
theorem costOf (w : World) {n r : Int} (hn : I64 n) (hr : I64 r) :
    Calls Try.prog 18 #[.int .i64 n, .int .i64 r] w (RetV w (.int .i64 (costI n r))) := by
  have HW1 := Lib.hid (fun w1 : World => within w1 (x := n) (a := 0) (b := 200))
  have HW2 := Lib.hid (fun w1 : World => within w1 (x := r) (a := 0) (b := 6))
  unfold costI
  by_cases h1 : 0 ≤ n ∧ n ≤ 200
  · by_cases h2 : 0 ≤ r ∧ r ≤ 6
    · rw [if_pos ⟨h1, h2⟩]
      rw [decide_eq_true h1] at HW1
      rw [decide_eq_true h2] at HW2
      go_enter Try.func18, Try.ntmps18
      go_wp2_with fail
      refine (HW1.out w).mono ?_
      rintro e w1 ⟨rfl, rfl⟩
      go_wp2_with fail
      refine (HW2.out w).mono ?_
      rintro e w2 ⟨rfl, rfl⟩
      go_wp2
      go_ret
      exact ⟨by first | rfl | go_num, Below.refl _ _⟩
    · rw [if_neg (fun h => h2 h.2)]
      rw [decide_eq_true h1] at HW1
      rw [decide_eq_false h2] at HW2
      go_enter Try.func18, Try.ntmps18
      go_wp2_with fail
      refine (HW1.out w).mono ?_
      rintro e w1 ⟨rfl, rfl⟩
      go_wp2_with fail
      refine (HW2.out w).mono ?_
      rintro e w2 ⟨rfl, rfl⟩
      go_wp2
      go_ret
      exact ⟨rfl, Below.refl _ _⟩
  · rw [if_neg (fun h => h1 h.1)]
    rw [decide_eq_false h1] at HW1
    go_enter Try.func18, Try.ntmps18
    go_wp2_with fail
    refine (HW1.out w).mono ?_
    rintro e w1 ⟨rfl, rfl⟩
    go_wp2
    go_ret
    exact ⟨rfl, Below.refl _ _⟩

/-- Is it a slot of a thing that is there? -/
def slotB (K : List Kn) (x : Int) : Bool := decide (0 ≤ x ∧ x ≤ (K.length : Int) - 1) && thereK K x
theorem ref_slot {K : List Kn} {x : Int} (h : ¬ x = -1) : refBad K x = !slotB K x := by
  unfold refBad slotB
  by_cases h0 : 0 ≤ x
  · by_cases h1 : x ≤ (K.length : Int) - 1
    · rw [decide_eq_true (show -1 ≤ x ∧ x ≤ (K.length : Int) - 1 by omega), decide_eq_true h0, decide_eq_true (show 0 ≤ x ∧ x ≤ (K.length : Int) - 1 by omega)]
      simp
    · rw [decide_eq_false (show ¬ (-1 ≤ x ∧ x ≤ (K.length : Int) - 1) by omega), decide_eq_false (show ¬ (0 ≤ x ∧ x ≤ (K.length : Int) - 1) by omega)]
      simp
  · rw [decide_eq_false (show ¬ (-1 ≤ x ∧ x ≤ (K.length : Int) - 1) by omega), decide_eq_false (show ¬ (0 ≤ x ∧ x ≤ (K.length : Int) - 1) by omega)]
    simp
theorem ref_none {K : List Kn} : refBad K (-1) = false := by
  unfold refBad
  rw [decide_eq_true (show -1 ≤ (-1 : Int) ∧ (-1 : Int) ≤ (K.length : Int) - 1 by omega)]
  rfl

set_option maxHeartbeats 400000 in
theorem isThere (w : World) {lo hi : Nat} {v : Value} {K : List Kn} {x : Int} (h : RdK w lo hi v K) (hK : K.length ≤ 1048576) :
    Calls Try.prog 51 #[v, .int .i64 x] w (RetV w (.bool (slotB K x))) := by
  have HW1 := Lib.hid (fun w1 : World => within w1 (x := x) (a := 0) (b := (K.length : Int) - 1))
  have HR := Lib.hid h
  unfold slotB
  obtain ⟨A, c, rfl, hc, hm⟩ := h.form
  clear h hc hm
  obtain ⟨n, hn⟩ : ∃ n, n = K.length := ⟨_, rfl⟩
  have HN := Lib.hid hn
  rw [← hn] at HR HW1 hK ⊢
  clear hn
  by_cases h1 : 0 ≤ x ∧ x ≤ (n : Int) - 1
  · rw [decide_eq_true h1] at HW1 ⊢
    obtain ⟨k, rfl⟩ : ∃ k : Nat, x = (k : Int) := ⟨x.toNat, by omega⟩
    obtain ⟨s, hs⟩ : ∃ s, K[k]? = some s := ⟨_, List.getElem?_eq_getElem (by have := HN.out; omega)⟩
    obtain ⟨b, o, y, rfl, hb1, c0, c1, c2, hy⟩ := HR.out.spot hs
    have HT : Hid (thereK K (k : Int) = s.t) := Lib.hid (by unfold thereK; rw [Int.toNat_natCast, hs])
    rw [HT.out]
    have hk : k < n := by omega
    clear hs hy c1 c2 HT
    obtain ⟨t, r, f⟩ := s
    dsimp only at c0 ⊢
    go_enter Try.func51, Try.ntmps51
    go_wp2_with fail
    refine (HW1.out w).mono ?_
    rintro e w1 ⟨rfl, rfl⟩
    go_wp2
    go_ret
    exact ⟨by cases t <;> rfl, Below.refl _ _⟩
  · rw [decide_eq_false h1] at HW1 ⊢
    go_enter Try.func51, Try.ntmps51
    go_wp2_with fail
    refine (HW1.out w).mono ?_
    rintro e w1 ⟨rfl, rfl⟩
    go_wp2
    go_ret
    exact ⟨rfl, Below.refl _ _⟩

theorem kn_not {K : List Kn} {r : Bool} {f : List Int} (hr : r = true ∨ 0 < f.length) : knBad K ⟨false, r, f⟩ = true := by
  refine kn_head ?_
  rcases hr with hr | hr
  · subst hr; simp
  · simp [hr]
theorem kn_none {K : List Kn} {f : List Int} (hf : f.length = 0) : knBad K ⟨false, false, f⟩ = false := by
  refine kn_good (by simp [hf]) (fun a y ha hy => ?_)
  rw [hf] at ha
  omega

set_option maxHeartbeats 4000000 in
theorem isRightIn (w : World) {lo hi la ha : Nat} {v x : Value} {K : List Kn} {t r : Bool} {f : List Int} (h : RdK w lo hi v K) (hK : K.length ≤ 1048576) (hx : RdR w la ha 1 x (intR f)) (hf : f.length ≤ 1048576) :
    Calls Try.prog 37 #[.agg #[.bool t, .bool r, x], v] w (RetV w (.bool (!knBad K ⟨t, r, f⟩))) := by
  have HI := Lib.hid (fun (w1 : World) (hb : Below w.heap.size w w1) (y : Int) => isThere w1 (x := y) (h.below hb) hK)
  obtain ⟨A, c, rfl, hc, hm⟩ := h.form
  clear h hc hm
  have HX := Lib.hid hx
  obtain ⟨Ax, cx, rfl, hcx, hmx, hzz⟩ := hx
  rw [intR_length] at HX ⊢
  clear hcx hmx hzz
  obtain ⟨l, hl⟩ : ∃ l, l = f.length := ⟨_, rfl⟩
  have HL := Lib.hid hl
  rw [← hl] at HX hf ⊢
  clear hl
  obtain ⟨X, hX⟩ : ∃ X, X = knBad K ⟨t, r, f⟩ := ⟨_, rfl⟩
  have HXX := Lib.hid hX
  rw [← hX]
  clear hX
  obtain ⟨n, hn⟩ : ∃ n, n = K.length := ⟨_, rfl⟩
  rw [← hn] at HI ⊢
  clear hn hK
  have HB0 : Hid (Below w.heap.size w (w.alloc (.cells #[.bool t, .bool r, .slice Ax l cx] 36))) := Lib.hid ((Below.refl _ _).alloc (Nat.le_refl _) _)
  cases t
  · cases r
    · by_cases hl0 : l = 0
      · subst hl0
        have HV : Hid (X = false) := Lib.hid (HXX.out.trans (kn_none HL.out.symm))
        go_enter Try.func37, Try.ntmps37
        go_wp2
        go_ret
        exact ⟨by rw [HV.out]; rfl, HB0.out⟩
      · have HV : Hid (X = true) := Lib.hid (HXX.out.trans (kn_not (.inr (by have := HL.out; omega))))
        have hl1 : ¬ ((l : Int) = 0) := by omega
        go_enter Try.func37, Try.ntmps37
        go_wp2
        go_ret
        exact ⟨by rw [HV.out]; simp [hl0], HB0.out⟩
    · have HV : Hid (X = true) := Lib.hid (HXX.out.trans (kn_not (.inl rfl)))
      go_enter Try.func37, Try.ntmps37
      go_wp2
      go_ret
      exact ⟨by rw [HV.out]; rfl, HB0.out⟩
  · by_cases h6 : 6 < l
    · have HV : Hid (X = true) := Lib.hid (HXX.out.trans (kn_head (by simp [← HL.out, h6])))
      go_enter Try.func37, Try.ntmps37
      go_wp2
      go_ret
      exact ⟨by rw [HV.out]; rfl, HB0.out⟩
    · have HH : Hid ((decide (6 < f.length) || (!true && (r || decide (0 < f.length)))) = false) := Lib.hid (by simp [← HL.out, h6])
      go_enter Try.func37, Try.ntmps37
      go_wp2_with fail
      go_loopw [26] (fun iv wr => ∃ k : Nat, k ≤ l ∧ iv = .int .i64 k ∧ Hid (∀ (a : Nat) (y : Int), a < k → f[a]? = some y → refBad K y = false) ∧ Hid (Below w.heap.size w wr)) (fun iv _ => l - (intOf iv).toNat)
      case atStart => exact ⟨0, Nat.zero_le _, rfl, Lib.hid (fun a y ha => absurd ha (Nat.not_lt_zero _)), HB0⟩
      case round =>
        obtain ⟨k, hk, rfl, ho, hb⟩ := hrel
        by_cases hkl : k < l
        · obtain ⟨y, hy, hyp⟩ := int_at (L := f) (k := k) (by have := HL.out; omega)
          have HY := Lib.hid hy
          obtain ⟨bx, ox, hAx, _, z0⟩ := one (HX.out.below hb.out) hyp
          subst hAx
          have HC := Lib.hid (HI.out wr hb.out y)
          clear hy hyp
          by_cases hy1 : y = -1
          · subst hy1
            have HG : Hid (refBad K (-1) = false) := Lib.hid ref_none
            go_wp2
            go_roundw
            case rel => exact ⟨k + 1, by omega, by go_num, Lib.hid (fun a u hau hu => by
              by_cases e : a = k
              · subst e
                rw [HY.out] at hu
                injection hu with hu
                rw [← hu]
                exact HG.out
              · exact ho.out a u (by omega) hu), hb⟩
            case measure => simp [intOf]; omega
          · obtain ⟨B, hB⟩ : ∃ B, B = slotB K y := ⟨_, rfl⟩
            have HRB : Hid (refBad K y = !B) := Lib.hid (by rw [hB]; exact ref_slot hy1)
            rw [← hB] at HC
            clear hB
            cases B
            · have HV : Hid (X = true) := Lib.hid (HXX.out.trans (kn_ref (s := ⟨true, r, f⟩) (a := k) HY.out HRB.out))
              go_wp2_with fail
              refine HC.out.mono ?_
              rintro e w1 ⟨rfl, hb1⟩
              have HB1 := Lib.hid (below_then hb.out hb1 (Nat.le_refl _))
              clear hb1
              go_wp2
              go_ret
              exact ⟨by rw [HV.out]; rfl, HB1.out⟩
            · go_wp2_with fail
              refine HC.out.mono ?_
              rintro e w1 ⟨rfl, hb1⟩
              have HB1 := Lib.hid (below_then hb.out hb1 (Nat.le_refl _))
              clear hb1
              go_wp2
              go_roundw
              case rel => exact ⟨k + 1, by omega, by go_num, Lib.hid (fun a u hau hu => by
                by_cases e : a = k
                · subst e
                  rw [HY.out] at hu
                  injection hu with hu
                  rw [← hu]
                  exact HRB.out
                · exact ho.out a u (by omega) hu), HB1⟩
              case measure => simp [intOf]; omega
        · obtain rfl : k = l := by omega
          have HV : Hid (X = false) := Lib.hid (HXX.out.trans (kn_good (s := ⟨true, r, f⟩) HH.out (fun a y ha hy => ho.out a y (by have := HL.out; exact this.symm ▸ ha) hy)))
          go_wp2
          go_ret
          exact ⟨by rw [HV.out]; rfl, hb.out⟩

set_option maxHeartbeats 4000000 in
theorem webOk (w : World) {lo hi : Nat} {v : Value} {K : List Kn} (h : RdK w lo hi v K) (hK : K.length ≤ 1048576) (hF : ∀ k ∈ K, k.f.length ≤ 1048576) :
    Calls Try.prog 16 #[v] w (RetV w (.bool (webB K))) := by
  have HR := Lib.hid h.all
  have HFL := Lib.hid hF
  have HRB := Lib.hid h
  have HK := Lib.hid hK
  obtain ⟨A, c, rfl, hc, hm⟩ := h.form
  clear h hc hm hF
  obtain ⟨n, hn⟩ : ∃ n, n = K.length := ⟨_, rfl⟩
  have HN := Lib.hid hn
  rw [← hn] at HR HRB hK ⊢
  obtain ⟨X, hX⟩ : ∃ X, X = webB K := ⟨_, rfl⟩
  have HX := Lib.hid hX
  rw [← hX]
  clear hn hX
  by_cases h16 : 16 < n
  · have HV : Hid (X = false) := Lib.hid (by rw [HX.out]; unfold webB; rw [decide_eq_false (by have := HN.out; omega), Bool.and_false])
    go_enter Try.func16, Try.ntmps16
    go_wp2
    go_ret
    exact ⟨by rw [HV.out]; first | done | rfl, Below.refl _ _⟩
  · go_enter Try.func16, Try.ntmps16
    go_wp2_with fail
    go_loopw [10] (fun i wr => ∃ k : Nat, k ≤ n ∧ i = .int .i64 k ∧ Hid (∀ (j : Nat) (x : Kn), j < k → K[j]? = some x → knBad K x = false) ∧ Hid (Below w.heap.size w wr)) (fun i _ => n - (intOf i).toNat)
    case atStart => exact ⟨0, Nat.zero_le _, rfl, Lib.hid (fun j x hj => absurd hj (Nat.not_lt_zero _)), Lib.hid (Below.refl _ _)⟩
    case round =>
      obtain ⟨k, hk, rfl, ho, hb⟩ := hrel
      by_cases hlt : k < n
      · obtain ⟨s, hs⟩ : ∃ s, K[k]? = some s := ⟨_, List.getElem?_eq_getElem (by have := HN.out; omega)⟩
        have HS := Lib.hid hs
        obtain ⟨b, o, x, rfl, hb1, c0, c1, c2, hx⟩ := HR.out.spot hs
        have HXR := Lib.hid hx
        have HL0 := Lib.hid (HFL.out s (List.mem_of_getElem? hs))
        obtain ⟨t, r, f⟩ := s
        dsimp only at c0 c1 c2 HXR HL0 hx
        obtain ⟨Ax, l, cx, rfl⟩ : ∃ Ax l cx, x = .slice Ax l cx := by
          obtain ⟨Ax, cx, e, _⟩ := hx
          exact ⟨_, _, _, e⟩
        clear hs hx
        have d0 := (hb.out.cell (p := ⟨b, o + k * 3, none⟩) hb1).trans c0
        have d1 := (hb.out.cell (p := ⟨b, o + k * 3 + 1, none⟩) hb1).trans c1
        have d2 := (hb.out.cell (p := ⟨b, o + k * 3 + 2, none⟩) hb1).trans c2
        have HBA : Hid (Below w.heap.size w (wr.alloc (.cells #[.bool t, .bool r, .slice Ax l cx] 36))) := Lib.hid (hb.out.alloc hb.out.size _)
        have HCC := Lib.hid (isRightIn (wr.alloc (.cells #[.bool t, .bool r, .slice Ax l cx] 36)) (t := t) (r := r) (HRB.out.below HBA.out) HK.out (HXR.out.below HBA.out) HL0.out)
        obtain ⟨B, hB⟩ : ∃ B, B = knBad K ⟨t, r, f⟩ := ⟨_, rfl⟩
        have HBB := Lib.hid hB
        rw [← hB] at HCC
        clear hB c0 c1 c2 hb1
        cases B
        · go_wp2_with fail
          refine HCC.out.mono ?_
          rintro e w1 ⟨rfl, hb2⟩
          have HB2 := Lib.hid (below_then HBA.out hb2 (Nat.le_refl _))
          clear hb2
          go_wp2
          go_roundw
          case rel => exact ⟨k + 1, by omega, by go_num, Lib.hid (fun a x ha hxa => by
            by_cases hak : a = k
            · subst hak
              rw [HS.out] at hxa
              injection hxa with hxa
              rw [← hxa]
              exact HBB.out.symm
            · exact ho.out a x (by omega) hxa), HB2⟩
          case measure => simp [intOf]; omega
        · have HV : Hid (X = false) := Lib.hid (HX.out.trans (web_bad HS.out HBB.out.symm))
          go_wp2_with fail
          refine HCC.out.mono ?_
          rintro e w1 ⟨rfl, hb2⟩
          have HB2 := Lib.hid (below_then HBA.out hb2 (Nat.le_refl _))
          clear hb2
          go_wp2
          go_ret
          exact ⟨by rw [HV.out]; first | done | rfl, HB2.out⟩
      · obtain rfl : k = n := by omega
        have HV : Hid (X = true) := Lib.hid (HX.out.trans ((web_good (fun j x hj => ho.out j x (by have := HN.out; omega))).trans (decide_eq_true (by have := HN.out; omega))))
        go_wp2
        go_ret
        exact ⟨by rw [HV.out]; first | done | rfl, hb.out⟩
end Go.Proofs.Ytmipkngikimjgab.ReachH

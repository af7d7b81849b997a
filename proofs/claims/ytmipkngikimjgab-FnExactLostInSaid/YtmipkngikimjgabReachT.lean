/-
  The model's chapter 6 (package spec): what is reached, what is lost, in the words of Pure6.
-/
import Derived.Test.YtmipkngikimjgabReachS
namespace Go.Proofs.Ytmipkngikimjgab.ReachT
open Go.RowKit Go.Proofs.Ytmipkngikimjgab.Mem Go.Proofs.Ytmipkngikimjgab.Pure Go.Proofs.Ytmipkngikimjgab.Help Go.Proofs.Ytmipkngikimjgab.FloorI Go.Proofs.Ytmipkngikimjgab.Seq Go.Proofs.Ytmipkngikimjgab.Ints Go.Proofs.Ytmipkngikimjgab.Webs Go.Proofs.Ytmipkngikimjgab.HelpK Go.Proofs.Ytmipkngikimjgab.ReachS
set_option linter.unusedVariables false

theorem pass_no {K : List Kn} {o : List Bool} {i : Nat} {k : Kn} (hk : K[i]? = some k) (h : (passTo K o i)[i]? = some false) : passTo K o (i + 1) = passTo K o i := by
  show (match K[i]? with | some k => if (passTo K o i)[i]? = some true then markTo (passTo K o i) k.f k.f.length else passTo K o i | none => passTo K o i) = _
  rw [hk]
  dsimp only
  rw [if_neg (by rw [h]; simp)]
theorem pass_yes {K : List Kn} {o : List Bool} {i : Nat} {k : Kn} (hk : K[i]? = some k) (h : (passTo K o i)[i]? = some true) : passTo K o (i + 1) = markTo (passTo K o i) k.f k.f.length := by
  show (match K[i]? with | some k => if (passTo K o i)[i]? = some true then markTo (passTo K o i) k.f k.f.length else passTo K o i | none => passTo K o i) = _
  rw [hk]
  dsimp only
  rw [if_pos h]
theorem mark_yes {o : List Bool} {f : List Int} {j : Nat} {x : Nat} (hx : f[j]? = some (x : Int)) : markTo o f (j + 1) = (markTo o f j).set x true := by
  show (match f[j]? with | some x => if 0 ≤ x then (markTo o f j).set x.toNat true else markTo o f j | none => markTo o f j) = _
  rw [hx]
  dsimp only
  rw [if_pos (by omega)]
  rfl
theorem mark_no {o : List Bool} {f : List Int} {j : Nat} {x : Int} (hx : f[j]? = some x) (h : ¬ 0 ≤ x) : markTo o f (j + 1) = markTo o f j := by
  show (match f[j]? with | some x => if 0 ≤ x then (markTo o f j).set x.toNat true else markTo o f j | none => markTo o f j) = _
  rw [hx]
  dsimp only
  rw [if_neg h]
theorem booR_set (L : List Bool) (i : Nat) (x : Bool) : (booR L).set i [.bool x] = booR (L.set i x) := by simp [booR, List.map_set]
theorem fill_bools (L : List Bool) (k : Nat) {x : Bool} (hx : L[k]? = some x) :
    (L.take k ++ List.replicate (L.length - k) false).set k x = L.take (k + 1) ++ List.replicate (L.length - (k + 1)) false := by
  have hk : k < L.length := (List.getElem?_eq_some_iff.1 hx).1
  have e1 : (L.take k).length = k := by rw [List.length_take]; omega
  have e2 : L.length - k = (L.length - (k + 1)) + 1 := by omega
  have e3 : L[k] = x := (List.getElem?_eq_some_iff.1 hx).2
  rw [List.set_append_right _ _ (by omega), e1, Nat.sub_self, e2, List.replicate_succ, List.set_cons_zero, List.take_succ_eq_append_getElem hk, List.append_assoc, e3]
  rfl
theorem fill_bool_at (L : List Bool) (k : Nat) (hk : k < L.length) : (booR (L.take k ++ List.replicate (L.length - k) false))[k]? = some [.bool false] := by
  have e1 : (L.take k).length = k := by rw [List.length_take]; omega
  exact booR_get (by rw [List.getElem?_append_right (by omega), e1, Nat.sub_self, List.getElem?_replicate, if_pos (by omega)])

/-- The row of what is reached so far. -/
structure OB (w : World) (s n : Nat) (o : List Bool) (wr : World) : Prop where
  own : OwnR wr w.heap.size s 4 1 (.slice (some ⟨w.heap.size, 0, none⟩) n n) (booR o)
  below : Below w.heap.size w wr
  sz : s ≤ wr.heap.size
theorem OB.at {w wr : World} {s n i : Nat} {o : List Bool} {x : Bool} (h : OB w s n o wr) (hx : o[i]? = some x) : wr.cell? ⟨w.heap.size, i, none⟩ = some (.bool x) := by
  have := oneAt h.own.rd (booR_get hx)
  rwa [Nat.zero_add] at this
theorem OB.put {w wr : World} {s n i : Nat} {o : List Bool} {x : Bool} (h : Hid (OB w s n o wr)) (hx : o[i]? = some x) : wr.frozen? ⟨w.heap.size, i, none⟩ = false ∧ ∀ y : Bool, Hid (OB w s n (o.set i y) (wr.setCell ⟨w.heap.size, i, none⟩ (.bool y))) := by
  obtain ⟨g, hA, g1, g2, g3, f0, c0, hs⟩ := put1 h.out.own (booR_get hx)
  injection hA with hA
  injection hA with hA
  subst hA
  refine ⟨f0, fun y => ?_⟩
  obtain ⟨p1, p2⟩ := hs (.bool y)
  rw [booR_set] at p1
  exact Lib.hid ⟨p1, below_touch h.out.below p2 (Nat.le_refl _) (Nat.le_refl _), Nat.le_trans h.out.sz p2.size⟩

set_option maxHeartbeats 8000000 in
theorem l6Reach (w : World) {lo hi : Nat} {v : Value} {K : List Kn} (h : RdK w lo hi v K) (hW : webB K = true) :
    Calls Try.prog 34 #[v] w (RetW w 4 1 (booR (reachL K))) := by
  obtain ⟨i0, hi0, hz0, hz1, hz2⟩ := info_parts infoO
  have HR := Lib.hid h.all
  have HW := Lib.hid hW
  have HP := Lib.hid (web_parts hW)
  obtain ⟨A, c, rfl, hc, hm⟩ := h.form
  clear h hc hm hW
  obtain ⟨n, hn⟩ : ∃ n, n = K.length := ⟨_, rfl⟩
  have HN := Lib.hid hn
  have hn16 : n ≤ 16 := by rw [hn]; exact HP.out.1
  rw [← hn] at HR ⊢
  clear hn
  go_enter Try.func34, Try.ntmps34
  go_wp2_with (at_make; refine wpList_make_full _ rfl _ _ 26 rfl w.heap.size 4 i0 (.bool false) 1 Try.underlying26 hi0 hz0 hz1 .i64 .i64 _ _ n rfl rfl rfl rfl ?_ ?_ ?_ ?_)
  · rw [hz2]; omega
  · unfold maxLen; omega
  · exact Nat.le_refl _
  intro w1 hown hg
  have hb1 : Below w.heap.size w w1 := (Below.refl _ _).grown hg (Nat.le_refl _) (fun k hk => by cases hk)
  have HO1 : Hid (OB w w1.heap.size n ((K.map (·.r)).take 0 ++ List.replicate (n - 0) false) w1) := by
    refine Lib.hid ⟨?_, hb1, Nat.le_refl _⟩
    have := ownR_of_make (w := w) (sz := 1) (v := .slice (some ⟨w.heap.size, 0, none⟩) n n) (z := #[.bool false]) rfl (by omega) (by rw [Nat.mul_one]; exact hown)
    simpa [booR] using this
  clear hown hg hb1 hi0 hz0 hz1 hz2
  go_wp2_with fail
  go_loopw [4] (fun i wr => ∃ k : Nat, k ≤ n ∧ i = .int .i64 k ∧ Hid (OB w w1.heap.size n ((K.map (·.r)).take k ++ List.replicate (n - k) false) wr)) (fun i _ => n - (intOf i).toNat)
  case atStart => exact ⟨0, Nat.zero_le _, rfl, HO1⟩
  case round =>
    obtain ⟨k, hk, rfl, ho⟩ := hrel
    clear HO1
    by_cases hlt : k < n
    · obtain ⟨s, hs⟩ : ∃ s, K[k]? = some s := ⟨_, List.getElem?_eq_getElem (by have := HN.out; omega)⟩
      obtain ⟨b, o, x, rfl, hb1, c0, c1, c2, hx⟩ := (HR.out.below ho.out.below).spot hs
      have HML : Hid ((K.map (·.r)).length = n) := Lib.hid (by rw [List.length_map]; exact HN.out.symm)
      have HMS : Hid ((K.map (·.r))[k]? = some s.r) := Lib.hid (by rw [List.getElem?_map, hs]; rfl)
      have HAT : Hid (((K.map (·.r)).take k ++ List.replicate (n - k) false)[k]? = some false) := Lib.hid (by
        have e1 : ((K.map (·.r)).take k).length = k := by rw [List.length_take, HML.out]; omega
        rw [List.getElem?_append_right (by omega), e1, Nat.sub_self, List.getElem?_replicate, if_pos (by omega)])
      obtain ⟨f0, hput⟩ := OB.put ho HAT.out
      have HPUT := hput s.r
      have HFS : Hid (((K.map (·.r)).take k ++ List.replicate (n - k) false).set k s.r = (K.map (·.r)).take (k + 1) ++ List.replicate (n - (k + 1)) false) := Lib.hid (by have := fill_bools (K.map (·.r)) k HMS.out; rwa [HML.out] at this)
      rw [HFS.out] at HPUT
      have d0 := OB.at ho.out HAT.out
      clear hs hx hput HFS HAT ho
      go_wp2
      go_roundw
      case rel => exact ⟨k + 1, by omega, by go_num, HPUT⟩
      case measure => simp [intOf]; omega
    · obtain rfl : k = n := by omega
      have HO2 : Hid (OB w w1.heap.size k (roundsTo K 0) wr) := Lib.hid (by
        have := ho.out
        rw [Nat.sub_self, List.replicate_zero, List.append_nil, List.take_of_length_le (by rw [List.length_map]; have := HN.out; omega)] at this
        exact this)
      clear ho
      go_wp2_with fail
      go_loopw [5] (fun mv wr => ∃ m : Nat, m ≤ k ∧ mv = .int .i64 m ∧ Hid (OB w w1.heap.size k (roundsTo K m) wr)) (fun mv _ => k - (intOf mv).toNat)
      case atStart => exact ⟨0, Nat.zero_le _, rfl, HO2⟩
      case round =>
        obtain ⟨m, hm, rfl, ho⟩ := hrel
        clear HO2
        by_cases hmk : m < k
        · obtain ⟨R, hR⟩ : ∃ R, R = roundsTo K m := ⟨_, rfl⟩
          have HRR := Lib.hid hR
          rw [← hR] at ho
          have HRL : Hid (R.length = k) := Lib.hid (by rw [hR, roundsTo_length]; exact HN.out.symm)
          clear hR
          have HO3 : Hid (OB w w1.heap.size k (passTo K R 0) wr) := ho
          clear ho
          go_wp2_with fail
          go_loopw [6] (fun iv wr => ∃ i : Nat, i ≤ k ∧ iv = .int .i64 i ∧ Hid (OB w w1.heap.size k (passTo K R i) wr)) (fun iv _ => k - (intOf iv).toNat)
          case atStart => exact ⟨0, Nat.zero_le _, rfl, HO3⟩
          case round =>
            obtain ⟨i, hi, rfl, ho⟩ := hrel
            clear HO3
            by_cases hik : i < k
            · obtain ⟨s, hs⟩ : ∃ s, K[i]? = some s := ⟨_, List.getElem?_eq_getElem (by have := HN.out; omega)⟩
              have HS := Lib.hid hs
              obtain ⟨b, o, x, rfl, hb1, c0, c1, c2, hx⟩ := HR.out.spot hs
              have HXR := Lib.hid hx
              have HC2 := Lib.hid c2
              have HB1 := Lib.hid hb1
              have HSP := Lib.hid (HP.out.2 i s hs)
              obtain ⟨Ax, cx, rfl, hcx, hmx, hzz⟩ := hx
              rw [intR_length] at HXR HC2
              obtain ⟨t, r, f⟩ := s
              dsimp only at HXR HC2 HSP
              obtain ⟨l, hl⟩ : ∃ l, l = f.length := ⟨_, rfl⟩
              have HL := Lib.hid hl
              rw [← hl] at HXR HC2 HSP
              have hl6 : l ≤ 6 := HSP.out.1
              clear hs hl hzz hcx hmx c0 c1 c2 hb1
              obtain ⟨P, hP⟩ : ∃ P, P = passTo K R i := ⟨_, rfl⟩
              have HPP := Lib.hid hP
              rw [← hP] at ho
              have HPL : Hid (P.length = k) := Lib.hid (by rw [hP, passTo_length]; exact HRL.out)
              clear hP
              obtain ⟨u, hu⟩ : ∃ u, P[i]? = some u := ⟨_, List.getElem?_eq_getElem (by have := HPL.out; omega)⟩
              have HU := Lib.hid hu
              clear hu
              cases u
              · have HNX : Hid (passTo K R (i + 1) = P) := Lib.hid (by rw [pass_no HS.out (by rw [← HPP.out]; exact HU.out)]; exact HPP.out.symm)
                go_wp2_with fail
                go_loopw [7] (fun jv wr => jv = .int .i64 0 ∧ Hid (OB w w1.heap.size k P wr)) (fun jv _ => 0)
                case atStart => exact ⟨rfl, ho⟩
                case round =>
                  obtain ⟨rfl, ho2⟩ := hrel
                  have d2 := (ho2.out.below.cell (p := ⟨b, o + i * 3 + 2, none⟩) HB1.out).trans HC2.out
                  have e0 := OB.at ho2.out HU.out
                  by_cases hl0 : 0 < l
                  · go_wp2
                    go_roundw
                    case rel => exact ⟨i + 1, by omega, by go_num, by rw [HNX.out]; exact ho2⟩
                    case measure => simp [intOf]; omega
                  · obtain rfl : l = 0 := by omega
                    go_wp2
                    go_roundw
                    case rel => exact ⟨i + 1, by omega, by go_num, by rw [HNX.out]; exact ho2⟩
                    case measure => simp [intOf]; omega
              · have HNX : Hid (passTo K R (i + 1) = markTo P f l) := Lib.hid (by rw [pass_yes HS.out (by rw [← HPP.out]; exact HU.out), ← HPP.out, HL.out])
                have HO4 : Hid (OB w w1.heap.size k (markTo P f 0) wr) := ho
                clear ho
                go_wp2_with fail
                go_loopw [7] (fun jv wr => ∃ j : Nat, j ≤ l ∧ jv = .int .i64 j ∧ Hid (OB w w1.heap.size k (markTo P f j) wr)) (fun jv _ => l - (intOf jv).toNat)
                case atStart => exact ⟨0, Nat.zero_le _, rfl, HO4⟩
                case round =>
                  obtain ⟨j, hj, rfl, ho2⟩ := hrel
                  clear HO4
                  have d2 := (ho2.out.below.cell (p := ⟨b, o + i * 3 + 2, none⟩) HB1.out).trans HC2.out
                  have e0 := OB.at ho2.out (markTo_mono P f j i HU.out)
                  by_cases hjl : j < l
                  · obtain ⟨y, hy, hyp⟩ := int_at (L := f) (k := j) (by have := HL.out; omega)
                    have HY := Lib.hid hy
                    have HYB := Lib.hid (HSP.out.2.2 y (List.mem_of_getElem? hy))
                    obtain ⟨bx, ox, hAx, _, z0⟩ := one (HXR.out.below ho2.out.below) hyp
                    subst hAx
                    clear hy hyp
                    by_cases hy0 : 0 ≤ y
                    · obtain ⟨yi, rfl⟩ : ∃ yi : Nat, y = (yi : Int) := ⟨y.toNat, by omega⟩
                      have hyk : yi < k := by have := HYB.out.2.1; have := HN.out; omega
                      obtain ⟨u2, hu2⟩ : ∃ u2, (markTo P f j)[yi]? = some u2 := ⟨_, List.getElem?_eq_getElem (by rw [markTo_length]; have := HPL.out; omega)⟩
                      obtain ⟨f0, hput⟩ := OB.put ho2 hu2
                      have HPUT := hput true
                      have HMY : Hid (markTo P f (j + 1) = (markTo P f j).set yi true) := Lib.hid (mark_yes HY.out)
                      rw [← HMY.out] at HPUT
                      have q0 := OB.at ho2.out hu2
                      clear hput hu2 HMY ho2
                      go_wp2
                      go_roundw
                      case rel => exact ⟨j + 1, by omega, by go_num, HPUT⟩
                      case measure => simp [intOf]; omega
                    · have HMY : Hid (markTo P f (j + 1) = markTo P f j) := Lib.hid (mark_no HY.out hy0)
                      go_wp2
                      go_roundw
                      case rel => exact ⟨j + 1, by omega, by go_num, by rw [HMY.out]; exact ho2⟩
                      case measure => simp [intOf]; omega
                  · obtain rfl : j = l := by omega
                    go_wp2
                    go_roundw
                    case rel => exact ⟨i + 1, by omega, by go_num, by rw [HNX.out]; exact ho2⟩
                    case measure => simp [intOf]; omega
            · obtain rfl : i = k := by omega
              have HRN : Hid (roundsTo K (m + 1) = passTo K R i) := Lib.hid (by show passTo K (roundsTo K m) K.length = _; rw [← HRR.out, ← HN.out])
              go_wp2
              go_roundw
              case rel => exact ⟨m + 1, by omega, by go_num, by rw [HRN.out]; exact ho⟩
              case measure => simp [intOf]; omega
        · obtain rfl : m = k := by omega
          have HRN : Hid (reachL K = roundsTo K m) := Lib.hid (by unfold reachL; rw [← HN.out])
          go_wp2
          go_ret
          exact ⟨_, rfl, by rw [HRN.out]; exact ho.out.own.more (Nat.le_refl _) ho.out.sz, ho.out.below⟩

theorem made_b (w : World) (lo g : Nat) (hg : g = w.heap.size) (h : lo ≤ w.heap.size) : OwnR (w.alloc (.cells #[] 4)) lo (w.alloc (.cells #[] 4)).heap.size 4 1 (.slice (some ⟨g, 0, none⟩) 0 0) (booR []) := by
  subst hg
  exact ownR_made w lo h _ _
theorem made_i (w : World) (lo g : Nat) (hg : g = w.heap.size) (h : lo ≤ w.heap.size) : OwnR (w.alloc (.cells #[] 2)) lo (w.alloc (.cells #[] 2)).heap.size 2 1 (.slice (some ⟨g, 0, none⟩) 0 0) (intR []) := by
  subst hg
  exact ownR_made w lo h _ _

set_option maxHeartbeats 400000 in
theorem reached (w : World) {lo hi : Nat} {v : Value} {K : List Kn} (h : RdK w lo hi v K) (hK : K.length ≤ 1048576) (hF : ∀ k ∈ K, k.f.length ≤ 1048576) :
    Calls Try.prog 11 #[v] w (RetW w 4 1 (booR (reachP K))) := by
  have HT := Lib.hid (webOk w h hK hF)
  have HF := Lib.hid (fun (w1 : World) (hb : Below w.heap.size w w1) (hW : webB K = true) => l6Reach w1 (h.below hb) hW)
  unfold reachP
  obtain ⟨X, hX⟩ : ∃ X, X = webB K := ⟨_, rfl⟩
  have HX := Lib.hid hX
  rw [← hX] at HT ⊢
  clear hX
  obtain ⟨A, c, rfl, hc, hm⟩ := h.form
  clear h hc hm hF
  obtain ⟨n, hn⟩ : ∃ n, n = K.length := ⟨_, rfl⟩
  rw [← hn] at HT HF ⊢
  clear hn hK
  cases X <;> simp only [Bool.false_eq_true, if_false, if_true]
  · go_enter Try.func11, Try.ntmps11
    go_wp2_with fail
    refine HT.out.mono ?_
    rintro e w1 ⟨rfl, hb1⟩
    have HB1 := Lib.hid hb1
    clear hb1
    go_wp2
    go_ret
    exact ⟨_, rfl, made_b w1 _ _ (by simp) HB1.out.size, below_then HB1.out ((Below.refl _ _).alloc (Nat.le_refl _) _) (Nat.le_refl _)⟩
  · go_enter Try.func11, Try.ntmps11
    go_wp2_with fail
    refine HT.out.mono ?_
    rintro e w1 ⟨rfl, hb1⟩
    have HB1 := Lib.hid hb1
    clear hb1
    go_wp2_with fail
    refine (HF.out w1 HB1.out HX.out.symm).mono ?_
    rintro e w2 ⟨v2, rfl, ho2, hb2⟩
    have HO2 := Lib.hid ho2
    have HB2 := Lib.hid hb2
    clear ho2 hb2
    go_wp2
    go_ret
    exact ⟨_, rfl, HO2.out.more HB1.out.size (Nat.le_refl _), below_then HB1.out HB2.out (Nat.le_refl _)⟩

theorem lost_yes {K : List Kn} {o : List Bool} {i : Nat} {k : Kn} (hk : K[i]? = some k) (h : k.t = true ∧ o[i]? = some false) : lostTo K o (i + 1) = lostTo K o i ++ [(i : Int)] := by
  show (match K[i]? with | some k => if k.t = true ∧ o[i]? = some false then lostTo K o i ++ [(i : Int)] else lostTo K o i | none => lostTo K o i) = _
  rw [hk]
  dsimp only
  rw [if_pos h]
theorem lost_no {K : List Kn} {o : List Bool} {i : Nat} {k : Kn} (hk : K[i]? = some k) (h : ¬ (k.t = true ∧ o[i]? = some false)) : lostTo K o (i + 1) = lostTo K o i := by
  show (match K[i]? with | some k => if k.t = true ∧ o[i]? = some false then lostTo K o i ++ [(i : Int)] else lostTo K o i | none => lostTo K o i) = _
  rw [hk]
  dsimp only
  rw [if_neg h]

/-- A row of numbers that grows, beside the row of what is reached. -/
structure LB (w : World) (v u : Value) (o : List Bool) (L : List Int) (wr : World) : Prop where
  own : OwnR wr w.heap.size wr.heap.size 2 1 v (intR L)
  rd : ∃ lt ht, RdR wr lt ht 1 u (booR o) ∧ ht ≤ wr.heap.size ∧ ∀ q, v.ownBlock = some q → q < lt ∨ ht ≤ q
  below : Below w.heap.size w wr
theorem rd_grown {w w' : World} {lt ht sz : Nat} {v ov : Value} {R : List (List Value)} (h : RdR w lt ht sz v R) (hg : w.grownBy w' ov.ownBlock) (ha : ∀ q, ov.ownBlock = some q → q < lt ∨ ht ≤ q) : RdR w' lt ht sz v R := by
  cases hq : ov.ownBlock with
  | none => exact h.touch (lo' := 0) (hi' := 0) (only_grown hg (fun k hk => by rw [hq] at hk; cases hk)) (.inr (Nat.zero_le _))
  | some q => exact h.touch (lo' := q) (hi' := q + 1) (only_grown hg (fun k hk => by rw [hq] at hk; injection hk with hk; omega)) (by have := ha q hq; omega)

set_option maxHeartbeats 4000000 in
theorem l6Lost (w : World) {lo hi : Nat} {v : Value} {K : List Kn} (h : RdK w lo hi v K) (hW : webB K = true) :
    Calls Try.prog 36 #[v] w (RetW w 2 1 (intR (lostL K))) := by
  have HR := Lib.hid h.all
  have HC := Lib.hid (fun (w1 : World) (hb : Below w.heap.size w w1) => l6Reach w1 (h.below hb) hW)
  have HK16 := Lib.hid (web_parts hW).1
  obtain ⟨A, c, rfl, hc, hm⟩ := h.form
  clear h hc hm hW
  obtain ⟨n, hn⟩ : ∃ n, n = K.length := ⟨_, rfl⟩
  have HN := Lib.hid hn
  have hn16 : n ≤ 16 := by rw [hn]; exact HK16.out
  rw [← hn] at HR HC ⊢
  clear hn
  obtain ⟨O, hO⟩ : ∃ O, O = reachL K := ⟨_, rfl⟩
  have HOL : Hid (O.length = n) := Lib.hid (by rw [hO, reachL_length]; exact HN.out.symm)
  have HLL : Hid (lostL K = lostTo K O n) := Lib.hid (by unfold lostL; rw [← hO, ← HN.out])
  rw [← hO] at HC
  clear hO
  have HB0 : Hid (Below w.heap.size w (w.alloc (.cells #[] 2))) := Lib.hid ((Below.refl _ _).alloc (Nat.le_refl _) _)
  have HO0 : Hid (OwnR (w.alloc (.cells #[] 2)) w.heap.size (w.alloc (.cells #[] 2)).heap.size 2 1 (.slice (some ⟨w.heap.size, 0, none⟩) 0 0) (intR [])) := Lib.hid (made_i w _ _ rfl (Nat.le_refl _))
  go_enter Try.func36, Try.ntmps36
  go_wp2_with fail
  refine (HC.out _ HB0.out).mono ?_
  rintro e w1 ⟨u, rfl, hou, hb1⟩
  obtain ⟨Au, nu, cu, rfl⟩ := hou.form
  have hnu : nu = n := by
    obtain ⟨A', c', hv, _⟩ := hou.rd
    injection hv with _ hv2
    rw [booR_length, HOL.out] at hv2
    exact hv2
  subst hnu
  have HL1 : Hid (LB w (.slice (some ⟨w.heap.size, 0, none⟩) 0 0) (.slice Au nu cu) O (lostTo K O 0) w1) := Lib.hid ⟨(HO0.out.below hb1).more (Nat.le_refl _) hb1.size, ⟨_, _, hou.rd, Nat.le_refl _, fun q hq => .inl (by simp [Value.ownBlock] at hq; simp; omega)⟩, below_then HB0.out hb1 (Nat.le_refl _)⟩
  clear hou hb1
  go_wp2_with fail
  go_loopw [3, 5] (fun ov iv wr => ∃ i : Nat, i ≤ nu ∧ iv = .int .i64 i ∧ Hid (LB w ov (.slice Au nu cu) O (lostTo K O i) wr)) (fun _ iv _ => nu - (intOf iv).toNat)
  case atStart => exact ⟨0, Nat.zero_le _, rfl, HL1⟩
  case round =>
    obtain ⟨i, hi, rfl, ho⟩ := hrel
    clear HL1
    by_cases hik : i < nu
    · obtain ⟨s, hs⟩ : ∃ s, K[i]? = some s := ⟨_, List.getElem?_eq_getElem (by have := HN.out; omega)⟩
      have HS := Lib.hid hs
      obtain ⟨b, o, x, rfl, hb1, c0, c1, c2, hx⟩ := (HR.out.below ho.out.below).spot hs
      clear hs hx c1 c2
      obtain ⟨t, r, f⟩ := s
      dsimp only at c0
      cases t
      · have HNX : Hid (lostTo K O (i + 1) = lostTo K O i) := Lib.hid (lost_no HS.out (by simp))
        go_wp2
        go_roundw
        case rel => exact ⟨i + 1, by omega, by go_num, by rw [HNX.out]; exact ho⟩
        case measure => simp [intOf]; omega
      · obtain ⟨u, hu, hup⟩ := boo_at (L := O) (k := i) (by have := HOL.out; omega)
        have HU := Lib.hid hu
        obtain ⟨lt, ht, hr1, hr2, hr3⟩ := ho.out.rd
        obtain ⟨bu, ou, hAu, _, z0⟩ := one hr1 hup
        subst hAu
        have HR3 := Lib.hid hr3
        have HR1 := Lib.hid hr1
        have HR2 := Lib.hid hr2
        clear hu hup hr1 hr2 hr3
        cases u
        · obtain ⟨A3, n3, c3, rfl⟩ := ho.out.own.form
          have HNX : Hid (lostTo K O (i + 1) = lostTo K O i ++ [(i : Int)]) := Lib.hid (lost_yes HS.out ⟨rfl, HU.out⟩)
          have hba : Below wr.heap.size wr (wr.alloc (.cells #[.int .i64 (i : Int)] 2)) := (Below.refl _ _).alloc (Nat.le_refl _) _
          have HO9 : Hid (OwnR (wr.alloc (.cells #[.int .i64 (i : Int)] 2)) w.heap.size (wr.alloc (.cells #[.int .i64 (i : Int)] 2)).heap.size 2 1 (.slice A3 n3 c3) (intR (lostTo K O i))) := Lib.hid ((ho.out.own.below hba).more (Nat.le_refl _) hba.size)
          have HBA := Lib.hid (below_then ho.out.below hba (Nat.le_refl _))
          have HRA := Lib.hid (HR1.out.below hba)
          have HSA := Lib.hid hba.size
          have HCC : Hid (∀ q u, ([Value.int .i64 (i : Int)])[q]? = some u → (wr.alloc (.cells #[.int .i64 (i : Int)] 2)).cell? ⟨wr.heap.size, q, none⟩ = some u) := Lib.hid (fun q u hu => by
            have h1 := (Blk.new wr #[.int .i64 (i : Int)] 2).cell q
            rw [h1]
            simpa using hu)
          have HLE : Hid ((intR (lostTo K O i)).length ≤ 16) := Lib.hid (by rw [intR_length]; have := lostTo_length K O i; omega)
          clear hba
          go_wp2_with (
            at_builtin
            refine wpList_append_r rfl _ _ _ rfl _ 8 Try.underlying31 infoI rfl (by omega) HO9.out wr.heap.size 1 (r := [.int .i64 (i : Int)]) rfl HCC.out (by simp [Value.oneCell']) (by have := HLE.out; omega) (by have := HLE.out; unfold maxLen; omega) HBA.out.size rfl rfl ?_
            intro v' w9 hO9 hT9 hG9 hA9
            have HLN : Hid (LB w v' (.slice (some ⟨bu, ou, none⟩) nu cu) O (lostTo K O (i + 1)) w9) := Lib.hid ⟨by
              rw [HNX.out]
              have e : intR (lostTo K O i ++ [(i : Int)]) = intR (lostTo K O i) ++ [[.int .i64 (i : Int)]] := by simp [intR]
              rw [e]
              exact hO9, ⟨lt, ht, rd_grown HRA.out hG9 HR3.out, Nat.le_trans HR2.out (Nat.le_trans HSA.out hG9.size), fun q hq => by
                rcases hA9 with e | e
                · rw [e] at hq
                  exact HR3.out q hq
                · rw [e] at hq
                  injection hq with hq
                  have := HR2.out
                  have := HSA.out
                  omega⟩, below_touch HBA.out hT9 (Nat.le_refl _) (Nat.le_refl _)⟩
            clear hO9 hT9 hG9 hA9)
          exact ⟨⟨i + 1, by omega, by go_num, HLN⟩, by simp [intOf]; omega⟩
        · have HNX : Hid (lostTo K O (i + 1) = lostTo K O i) := Lib.hid (lost_no HS.out (by rw [HU.out]; simp))
          go_wp2
          go_roundw
          case rel => exact ⟨i + 1, by omega, by go_num, by rw [HNX.out]; exact ho⟩
          case measure => simp [intOf]; omega
    · obtain rfl : i = nu := by omega
      go_wp2
      go_ret
      exact ⟨_, rfl, by rw [HLL.out]; exact ho.out.own, ho.out.below⟩

set_option maxHeartbeats 400000 in
theorem lostIn (w : World) {lo hi : Nat} {v : Value} {K : List Kn} (h : RdK w lo hi v K) (hK : K.length ≤ 1048576) (hF : ∀ k ∈ K, k.f.length ≤ 1048576) :
    Calls Try.prog 15 #[v] w (RetW w 2 1 (intR (lostP K))) := by
  have HT := Lib.hid (webOk w h hK hF)
  have HF := Lib.hid (fun (w1 : World) (hb : Below w.heap.size w w1) (hW : webB K = true) => l6Lost w1 (h.below hb) hW)
  unfold lostP
  obtain ⟨X, hX⟩ : ∃ X, X = webB K := ⟨_, rfl⟩
  have HX := Lib.hid hX
  rw [← hX] at HT ⊢
  clear hX
  obtain ⟨A, c, rfl, hc, hm⟩ := h.form
  clear h hc hm hF
  obtain ⟨n, hn⟩ : ∃ n, n = K.length := ⟨_, rfl⟩
  rw [← hn] at HT HF ⊢
  clear hn hK
  cases X <;> simp only [Bool.false_eq_true, if_false, if_true]
  · go_enter Try.func15, Try.ntmps15
    go_wp2_with fail
    refine HT.out.mono ?_
    rintro e w1 ⟨rfl, hb1⟩
    have HB1 := Lib.hid hb1
    clear hb1
    go_wp2
    go_ret
    exact ⟨_, rfl, made_i w1 _ _ (by simp) HB1.out.size, below_then HB1.out ((Below.refl _ _).alloc (Nat.le_refl _) _) (Nat.le_refl _)⟩
  · go_enter Try.func15, Try.ntmps15
    go_wp2_with fail
    refine HT.out.mono ?_
    rintro e w1 ⟨rfl, hb1⟩
    have HB1 := Lib.hid hb1
    clear hb1
    go_wp2_with fail
    refine (HF.out w1 HB1.out HX.out.symm).mono ?_
    rintro e w2 ⟨v2, rfl, ho2, hb2⟩
    have HO2 := Lib.hid ho2
    have HB2 := Lib.hid hb2
    clear ho2 hb2
    go_wp2
    go_ret
    exact ⟨_, rfl, HO2.out.more HB1.out.size (Nat.le_refl _), below_then HB1.out HB2.out (Nat.le_refl _)⟩
end Go.Proofs.Ytmipkngikimjgab.ReachT

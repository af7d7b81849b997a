/-
  The program's own chapter 6: which webs are right, what is reached, what is lost, what a thing costs. Webs of at most 1048576 knots and references, numbers of 64 bits.
-/
import Derived.Test.YtmipkngikimjgabReachM
import Derived.Test.YtmipkngikimjgabReachH
namespace Go.Proofs.Ytmipkngikimjgab.ReachI
open Go.RowKit Go.Proofs.Ytmipkngikimjgab.Mem Go.Proofs.Ytmipkngikimjgab.Pure Go.Proofs.Ytmipkngikimjgab.Help Go.Proofs.Ytmipkngikimjgab.FloorI Go.Proofs.Ytmipkngikimjgab.Seq Go.Proofs.Ytmipkngikimjgab.Ints Go.Proofs.Ytmipkngikimjgab.Webs Go.Proofs.Ytmipkngikimjgab.ReachT Go.Proofs.Ytmipkngikimjgab.Marks Go.Proofs.Ytmipkngikimjgab.ReachM
set_option linter.unusedVariables false

theorem webOk (w : World) {lo hi : Nat} {v : Value} {K : List Kn} (h : RdK w lo hi v K) (hK : K.length ≤ 1048576) (hF : ∀ k ∈ K, k.f.length ≤ 1048576) :
    Calls Try.prog 16 #[v] w (RetV w (.bool (webB K))) := ReachH.webOk w h hK hF
theorem costOf (w : World) {n r : Int} (hn : I64 n) (hr : I64 r) :
    Calls Try.prog 18 #[.int .i64 n, .int .i64 r] w (RetV w (.int .i64 (costI n r))) := ReachH.costOf w hn hr

theorem marked_get {M : List Nat} {k m : Nat} (h : M[k]? = some m) : (markedB M)[k]? = some (decide (m ≠ 0)) := by
  unfold markedB
  rw [List.getElem?_map, h]
  rfl

set_option maxHeartbeats 4000000 in
theorem reached (w : World) {lo hi : Nat} {v : Value} {K : List Kn} (h : RdK w lo hi v K) (hK : K.length ≤ 1048576) (hF : ∀ k ∈ K, k.f.length ≤ 1048576) :
    Calls Try.prog 10 #[v] w (RetW w 4 1 (booR (reachP K))) := by
  obtain ⟨i0, hi0, hz0, hz1, hz2⟩ := info_parts infoO
  have HT := Lib.hid (webOk w h hK hF)
  have HF := Lib.hid (fun (w1 : World) (hb : Below w.heap.size w w1) (hW : webB K = true) => marksOf w1 (h.below hb) hW)
  have HLK := Lib.hid (fun hW : webB K = true => (web_parts hW).1)
  unfold reachP
  obtain ⟨X, hX⟩ : ∃ X, X = webB K := ⟨_, rfl⟩
  have HX := Lib.hid hX
  rw [← hX] at HT ⊢
  clear hX
  obtain ⟨A, c, rfl, hc, hm⟩ := h.form
  clear h hc hm hF
  obtain ⟨n, hn⟩ : ∃ n, n = K.length := ⟨_, rfl⟩
  have HN := Lib.hid hn
  rw [← hn] at HT HF ⊢
  clear hn hK
  cases X <;> simp only [Bool.false_eq_true, if_false, if_true]
  · go_enter Try.func10, Try.ntmps10
    go_wp2_with fail
    refine HT.out.mono ?_
    rintro e w1 ⟨rfl, hb1⟩
    have HB1 := Lib.hid hb1
    clear hb1
    go_wp2
    go_ret
    exact ⟨_, rfl, made_b w1 _ _ (by simp) HB1.out.size, below_then HB1.out ((Below.refl _ _).alloc (Nat.le_refl _) _) (Nat.le_refl _)⟩
  · have hn16 : n ≤ 16 := by have := HLK.out HX.out.symm; have := HN.out; omega
    go_enter Try.func10, Try.ntmps10
    go_wp2_with fail
    refine HT.out.mono ?_
    rintro e w1 ⟨rfl, hb1⟩
    have HB1 := Lib.hid hb1
    clear hb1
    go_wp2_with fail
    refine (HF.out w1 HB1.out HX.out.symm).mono ?_
    rintro e w2 ⟨b, M, rfl, hmo, h3, hml, hmr, hb2⟩
    have HMO := Lib.hid hmo
    have H3 := Lib.hid h3
    have HML : Hid (M.length = n) := Lib.hid (hml.trans HN.out.symm)
    have HMR := Lib.hid hmr
    have HB2 := Lib.hid (below_then HB1.out hb2 (Nat.le_refl _))
    clear hmo h3 hml hmr hb2 HT HF HLK
    go_wp2_with (at_make; refine wpList_make_full _ rfl _ _ 26 rfl w2.heap.size 4 i0 (.bool false) 1 Try.underlying26 hi0 hz0 hz1 .i64 .i64 _ _ n rfl rfl rfl rfl ?_ ?_ ?_ ?_)
    · rw [hz2]; omega
    · unfold maxLen; omega
    · exact Nat.le_refl _
    intro w3 hown hg
    have hb3 : Below w2.heap.size w2 w3 := (Below.refl _ _).grown hg (Nat.le_refl _) (fun k hk => by cases hk)
    have HO1 : Hid (OB w2 w3.heap.size n ((markedB M).take 0 ++ List.replicate (n - 0) false) w3) := by
      refine Lib.hid ⟨?_, hb3, Nat.le_refl _⟩
      have := ownR_of_make (w := w2) (sz := 1) (v := .slice (some ⟨w2.heap.size, 0, none⟩) n n) (z := #[.bool false]) rfl (by omega) (by rw [Nat.mul_one]; exact hown)
      simpa [booR] using this
    clear hown hg hb3 hi0 hz0 hz1 hz2
    go_wp2_with fail
    go_loopw [17] (fun i wr => ∃ k : Nat, k ≤ n ∧ i = .int .i64 k ∧ Hid (OB w2 w3.heap.size n ((markedB M).take k ++ List.replicate (n - k) false) wr)) (fun i _ => n - (intOf i).toNat)
    case atStart => exact ⟨0, Nat.zero_le _, rfl, HO1⟩
    case round =>
      obtain ⟨k, hk, rfl, ho⟩ := hrel
      clear HO1
      by_cases hlt : k < n
      · obtain ⟨m, hm⟩ : ∃ m, M[k]? = some m := ⟨_, List.getElem?_eq_getElem (by have := HML.out; omega)⟩
        have HBL : Hid ((markedB M).length = n) := Lib.hid (by unfold markedB; rw [List.length_map]; exact HML.out)
        have HAT : Hid (((markedB M).take k ++ List.replicate (n - k) false)[k]? = some false) := Lib.hid (by
          have e1 : ((markedB M).take k).length = k := by rw [List.length_take, HBL.out]; omega
          rw [List.getElem?_append_right (by omega), e1, Nat.sub_self, List.getElem?_replicate, if_pos (by omega)])
        obtain ⟨f0, hput⟩ := OB.put ho HAT.out
        have HPUT := hput (decide (m ≠ 0))
        have HFS : Hid (((markedB M).take k ++ List.replicate (n - k) false).set k (decide (m ≠ 0)) = (markedB M).take (k + 1) ++ List.replicate (n - (k + 1)) false) := Lib.hid (by have := fill_bools (markedB M) k (marked_get hm); rwa [HBL.out] at this)
        rw [HFS.out] at HPUT
        have d0 := OB.at ho.out HAT.out
        have HC := Lib.hid (has wr (HMO.out.below ho.out.below) H3.out hm)
        obtain ⟨y, hy⟩ : ∃ y, y = decide (m ≠ 0) := ⟨_, rfl⟩
        rw [← hy] at HC HPUT
        clear hm hput HFS HAT ho hy
        go_wp2_with fail
        refine HC.out.mono ?_
        rintro e w4 ⟨rfl, rfl⟩
        go_wp2
        go_roundw
        case rel => exact ⟨k + 1, by omega, by go_num, HPUT⟩
        case measure => simp [intOf]; omega
      · obtain rfl : k = n := by omega
        have HO2 : Hid (OB w2 w3.heap.size k (reachL K) wr) := Lib.hid (by
          have := ho.out
          rw [Nat.sub_self, List.replicate_zero, List.append_nil, List.take_of_length_le (by unfold markedB; rw [List.length_map]; have := HML.out; omega), HMR.out] at this
          exact this)
        clear ho
        go_wp2
        go_ret
        exact ⟨_, rfl, HO2.out.own.more HB2.out.size HO2.out.sz, below_then HB2.out HO2.out.below (Nat.le_refl _)⟩

set_option maxHeartbeats 4000000 in
theorem lostIn (w : World) {lo hi : Nat} {v : Value} {K : List Kn} (h : RdK w lo hi v K) (hK : K.length ≤ 1048576) (hF : ∀ k ∈ K, k.f.length ≤ 1048576) :
    Calls Try.prog 14 #[v] w (RetW w 2 1 (intR (lostP K))) := by
  have HR := Lib.hid h.all
  have HC := Lib.hid (fun (w1 : World) (hb : Below w.heap.size w w1) => reached w1 (h.below hb) hK hF)
  have HLK := Lib.hid (fun hW : webB K = true => (web_parts hW).1)
  obtain ⟨A, c, rfl, hc, hm⟩ := h.form
  clear h hc hm hF
  obtain ⟨n, hn⟩ : ∃ n, n = K.length := ⟨_, rfl⟩
  have HN := Lib.hid hn
  rw [← hn] at HR HC ⊢
  clear hn hK
  obtain ⟨O, hO⟩ : ∃ O, O = reachP K := ⟨_, rfl⟩
  obtain ⟨l, hl⟩ : ∃ l, l = O.length := ⟨_, rfl⟩
  have HOL := Lib.hid hl
  have HLN : Hid (l ≤ n ∧ l ≤ 16) := Lib.hid (by
    rw [hl, hO]
    refine ⟨by rw [HN.out]; exact reachP_length K, ?_⟩
    unfold reachP
    split
    · rename_i hW
      rw [reachL_length]
      exact HLK.out hW
    · simp)
  have HLL : Hid (lostP K = lostTo K O l) := Lib.hid (by
    rw [hl, hO]
    unfold lostP reachP
    split
    · unfold lostL
      rw [reachL_length]
    · rfl)
  have hl16 : l ≤ 16 := HLN.out.2
  have hln : l ≤ n := HLN.out.1
  rw [← hO] at HC
  clear hO hl HLK HLN
  have HB0 : Hid (Below w.heap.size w (w.alloc (.cells #[] 2))) := Lib.hid ((Below.refl _ _).alloc (Nat.le_refl _) _)
  have HO0 : Hid (OwnR (w.alloc (.cells #[] 2)) w.heap.size (w.alloc (.cells #[] 2)).heap.size 2 1 (.slice (some ⟨w.heap.size, 0, none⟩) 0 0) (intR [])) := Lib.hid (made_i w _ _ rfl (Nat.le_refl _))
  go_enter Try.func14, Try.ntmps14
  go_wp2_with fail
  refine (HC.out _ HB0.out).mono ?_
  rintro e w1 ⟨u, rfl, hou, hb1⟩
  obtain ⟨Au, nu, cu, rfl⟩ := hou.form
  have hnu : nu = l := by
    obtain ⟨A', c', hv, _⟩ := hou.rd
    injection hv with _ hv2
    rw [booR_length] at hv2
    exact hv2.trans HOL.out.symm
  subst hnu
  have HL1 : Hid (LB w (.slice (some ⟨w.heap.size, 0, none⟩) 0 0) (.slice Au nu cu) O (lostTo K O 0) w1) := Lib.hid ⟨(HO0.out.below hb1).more (Nat.le_refl _) hb1.size, ⟨_, _, hou.rd, Nat.le_refl _, fun q hq => .inl (by simp [Value.ownBlock] at hq; simp; omega)⟩, below_then HB0.out hb1 (Nat.le_refl _)⟩
  clear hou hb1
  go_wp2_with fail
  go_loopw [3, 10] (fun ov iv wr => ∃ i : Nat, i ≤ nu ∧ iv = .int .i64 i ∧ Hid (LB w ov (.slice Au nu cu) O (lostTo K O i) wr)) (fun _ iv _ => nu - (intOf iv).toNat)
  case atStart => exact ⟨0, Nat.zero_le _, rfl, HL1⟩
  case round =>
    obtain ⟨i, hi, rfl, ho⟩ := hrel
    clear HL1
    by_cases hik : i < nu
    · obtain ⟨s, hs⟩ : ∃ s, K[i]? = some s := ⟨_, List.getElem?_eq_getElem (by have := HN.out; omega)⟩
      have HS := Lib.hid hs
      obtain ⟨b, o, x, rfl, hb1, c0, c1, c2, hx⟩ := (HR.out.below ho.out.below).spot hs
      have hin : i < n := by omega
      obtain ⟨u, hu, hup⟩ := boo_at (L := O) (k := i) (by have := HOL.out; omega)
      have HU := Lib.hid hu
      obtain ⟨lt, ht, hr1, hr2, hr3⟩ := ho.out.rd
      obtain ⟨bu, ou, hAu, _, z0⟩ := one hr1 hup
      subst hAu
      have HR3 := Lib.hid hr3
      have HR1 := Lib.hid hr1
      have HR2 := Lib.hid hr2
      clear hs hx c1 c2 hu hup hr1 hr2 hr3 hb1
      obtain ⟨t, r, f⟩ := s
      dsimp only at c0
      cases t
      · have HNX : Hid (lostTo K O (i + 1) = lostTo K O i) := Lib.hid (lost_no HS.out (by simp))
        go_wp2
        go_roundw
        case rel => exact ⟨i + 1, by omega, by go_num, by rw [HNX.out]; exact ho⟩
        case measure => simp [intOf]; omega
      · cases u
        · obtain ⟨A3, n3, c3, rfl⟩ := ho.out.own.form
          have HNX : Hid (lostTo K O (i + 1) = lostTo K O i ++ [(i : Int)]) := Lib.hid (lost_yes HS.out ⟨rfl, HU.out⟩)
          have hba : Below wr.heap.size wr (wr.alloc (.cells #[.int .i64 (i : Int)] 2)) := (Below.refl _ _).alloc (Nat.le_refl _) _
          have HO9 : Hid (OwnR (wr.alloc (.cells #[.int .i64 (i : Int)] 2)) w.heap.size (wr.alloc (.cells #[.int .i64 (i : Int)] 2)).heap.size 2 1 (.slice A3 n3 c3) (intR (lostTo K O i))) := Lib.hid ((ho.out.own.below hba).more (Nat.le_refl _) hba.size)
          have HBA := Lib.hid (below_then ho.out.below hba (Nat.le_refl _))
          have HRA := Lib.hid (HR1.out.below hba)
          have HSA := Lib.hid hba.size
          have HCC : Hid (∀ q u, ([Value.int .i64 (i : Int)])[q]? = some u → (wr.alloc (.cells #[.int .i64 (i : Int)] 2)).cell? ⟨wr.heap.size, q, none⟩ = some u) := Lib.hid (fun q u hu => by
            have h1 := (Blk.new wr #[.int .i64 (i : Int)] 2).cell q
            rw [h1]
            simpa using hu)
          have HLE : Hid ((intR (lostTo K O i)).length ≤ 16) := Lib.hid (by rw [intR_length]; have := lostTo_length K O i; omega)
          clear hba
          go_wp2_with (
            at_builtin
            refine wpList_append_r rfl _ _ _ rfl _ 8 Try.underlying31 infoI rfl (by omega) HO9.out wr.heap.size 1 (r := [.int .i64 (i : Int)]) rfl HCC.out (by simp [Value.oneCell']) (by have := HLE.out; omega) (by have := HLE.out; unfold maxLen; omega) HBA.out.size rfl rfl ?_
            intro v' w9 hO9 hT9 hG9 hA9
            have HLN : Hid (LB w v' (.slice (some ⟨bu, ou, none⟩) nu cu) O (lostTo K O (i + 1)) w9) := Lib.hid ⟨by
              rw [HNX.out]
              have e : intR (lostTo K O i ++ [(i : Int)]) = intR (lostTo K O i) ++ [[.int .i64 (i : Int)]] := by simp [intR]
              rw [e]
              exact hO9, ⟨lt, ht, rd_grown HRA.out hG9 HR3.out, Nat.le_trans HR2.out (Nat.le_trans HSA.out hG9.size), fun q hq => by
                rcases hA9 with e | e
                · rw [e] at hq
                  exact HR3.out q hq
                · rw [e] at hq
                  injection hq with hq
                  have := HR2.out
                  have := HSA.out
                  omega⟩, below_touch HBA.out hT9 (Nat.le_refl _) (Nat.le_refl _)⟩
            clear hO9 hT9 hG9 hA9)
          exact ⟨⟨i + 1, by omega, by go_num, HLN⟩, by simp [intOf]; omega⟩
        · have HNX : Hid (lostTo K O (i + 1) = lostTo K O i) := Lib.hid (lost_no HS.out (by rw [HU.out]; simp))
          go_wp2
          go_roundw
          case rel => exact ⟨i + 1, by omega, by go_num, by rw [HNX.out]; exact ho⟩
          case measure => simp [intOf]; omega
    · obtain rfl : i = nu := by omega
      go_wp2
      go_ret
      exact ⟨_, rfl, by rw [HLL.out]; exact ho.out.own, ho.out.below⟩
end Go.Proofs.Ytmipkngikimjgab.ReachI

/-
  The model's HeardBy: the answers that are heard, in memory of their own. At most 1048576 in all.
-/
import Derived.Test.YtmipkngikimjgaaAnsF
import Derived.Test.YtmipkngikimjgaaOrd
import Derived.Test.YtmipkngikimjgaaFloorS
namespace Go.Proofs.Ytmipkngikimjgaa.HeardS
open Go.RowKit Go.Proofs.Ytmipkngikimjgaa.Mem Go.Proofs.Ytmipkngikimjgaa.Pure Go.Proofs.Ytmipkngikimjgaa.Help Go.Proofs.Ytmipkngikimjgaa.Seq Go.Proofs.Ytmipkngikimjgaa.Ints Go.Proofs.Ytmipkngikimjgaa.Nest Go.Proofs.Ytmipkngikimjgaa.Mods Go.Proofs.Ytmipkngikimjgaa.Ans Go.Proofs.Ytmipkngikimjgaa.Ord
set_option linter.unusedVariables false

/-- What a round keeps: the answers heard so far, in memory of their own. -/
structure He (w0 : World) (v : Value) (K : List An) (wr : World) : Prop where
  own : OwnA wr w0.heap.size wr.heap.size v K
  below : Below w0.heap.size w0 wr

theorem He.form {w0 wr : World} {v : Value} {K : List An} (h : He w0 v K wr) : ∃ A n c, v = .slice A n c := by
  obtain ⟨A, c, hv, _⟩ := h.own.rd.form
  exact ⟨A, _, c, hv⟩
theorem He.step {w0 wr w2 : World} {v : Value} {K : List An} (h : He w0 v K wr) (hb : Below wr.heap.size wr w2) : He w0 v K w2 :=
  ⟨(h.own.below hb).more (Nat.le_refl _) hb.size, below_then h.below hb (Nat.le_refl _)⟩

/-- What append does behind a copy of one more: the row in w4, whose own block may move. -/
theorem He.app {w0 wr w1 w2 w4 : World} {v : Value} {K : List An} {c n : Int} {d : List Int} {y : Value} {P : Value} {g : Nat} (h : He w0 v K wr)
    (hb1 : Below wr.heap.size wr w1) (hg : wr.heap.size ≤ g ∧ g < w1.heap.size) (hb2 : Below w1.heap.size w1 w2) (hy : Own w2 w1.heap.size w2.heap.size y d) (hb4 : Below (w2.setCell ⟨g, 2, none⟩ P).heap.size (w2.setCell ⟨g, 2, none⟩ P) w4) :
    ∃ V, V.length = K.length ∧ OwnR w4 w0.heap.size wr.heap.size 91 3 v (anR K V) ∧ (anR K V).length = K.length ∧
      ∀ (v' : Value) (w5 : World), OwnR w5 w0.heap.size w5.heap.size 91 3 v' (anR K V ++ [[.int .i64 c, .int .i64 n, y]]) → OnlyIn w0.heap.size wr.heap.size w4 w5 → w4.grownBy w5 v.ownBlock → (v'.ownBlock = v.ownBlock ∨ v'.ownBlock = some w4.heap.size) → He w0 v' (K ++ [⟨c, n, d⟩]) w5 := by
  have hT : OnlyIn wr.heap.size w1.heap.size w2 (w2.setCell ⟨g, 2, none⟩ P) := only_in w2 2 P hg
  have hs24 : w2.heap.size ≤ w4.heap.size := Nat.le_trans hT.size hb4.size
  have ho := ((((h.own.below hb1).below hb2).touch hT (.inl (Nat.le_refl _))).below hb4)
  have hbl : Below w0.heap.size w0 w4 := below_then (below_touch (below_then (below_then h.below hb1 (Nat.le_refl _)) hb2 (Nat.le_refl _)) hT h.below.size (Nat.le_refl _)) hb4 (Nat.le_refl _)
  obtain ⟨V, h1, h2, h3, h4, h5⟩ := ho
  refine ⟨V, h1, h2, anR_length h1, fun v' w5 p1 p2 p3 p4 => ⟨?_, below_touch hbl p2 (Nat.le_refl _) (Nat.le_refl _)⟩⟩
  have hy4 : Own w4 wr.heap.size w2.heap.size y d := ((hy.touch hT (.inr (Nat.le_refl _))).below hb4).more hb1.size (Nat.le_refl _)
  exact OwnA.app (k := ⟨c, n, d⟩) h1 h3 h4 h5 h.below.size (Nat.le_trans hb1.size hb2.size) hs24 (fun q hq => (h2.blk hq).2.1) hy4 p1 p3 p4

set_option maxHeartbeats 4000000 in
theorem heardBy (w : World) {la ha lb hb : Nat} {va vb : Value} {L : List Od} {M : List An} {t : Int} (hA : RdG 6 odS w la ha va L) (hB : RdG 3 anS w lb hb vb M) (hM : M.length ≤ 1048576) (hF : ∀ k ∈ M, anC k ≤ 1048576) :
    Calls Try.prog 27 #[va, vb, .int .i64 t] w (fun e w' => ∃ v, e = .returned v ∧ He w v (heard t (L.zip M)) w') := by
  have HA := Lib.hid hA
  have HB := Lib.hid hB
  have HF := Lib.hid hF
  obtain ⟨A, ca, rfl, hca, hma⟩ := hA.form
  obtain ⟨B, cb, rfl, hcb, hmb⟩ := hB.form
  clear hA hB hF
  obtain ⟨n, hn⟩ : ∃ n, n = L.length := ⟨_, rfl⟩
  obtain ⟨m, hm⟩ : ∃ m, m = M.length := ⟨_, rfl⟩
  have HN := Lib.hid hn
  have HM := Lib.hid hm
  rw [← hn] at HA hca ⊢
  rw [← hm] at HB hcb hM ⊢
  have hnm : n ≤ 9223372036854775807 := by unfold maxLen at hma; omega
  obtain ⟨Z, hZ⟩ : ∃ Z, Z = L.zip M := ⟨_, rfl⟩
  have HZ := Lib.hid hZ
  rw [← hZ]
  have HZL : Hid (Z.length = min n m) := Lib.hid (by rw [hZ, List.length_zip, hn, hm])
  clear hn hm hca hma hcb hmb hZ
  have H0 : Hid (He w (.slice (some ⟨w.heap.size, 0, none⟩) 0 0) (heard t (Z.take 0)) (w.alloc (.cells #[] 91))) := Lib.hid ⟨ownA_nil w _ (Nat.le_refl _), (Below.refl _ _).alloc (Nat.le_refl _) _⟩
  go_enter Try.func27, Try.ntmps27
  go_wp2_with fail
  go_loopw [7, 8] (fun ov iv wr => ∃ i : Nat, i ≤ n ∧ i ≤ m ∧ iv = .int .i64 i ∧ Hid (He w ov (heard t (Z.take i)) wr)) (fun _ iv _ => n - (intOf iv).toNat)
  case atStart => exact ⟨0, Nat.zero_le _, Nat.zero_le _, rfl, H0⟩
  case round =>
    obtain ⟨i, hi, hi2, rfl, ho⟩ := hrel
    clear H0
    by_cases hin : i < n
    · by_cases him : i < m
      · obtain ⟨o, ho1⟩ : ∃ s, L[i]? = some s := ⟨_, List.getElem?_eq_getElem (by have := HN.out; omega)⟩
        obtain ⟨a, ha1⟩ : ∃ s, M[i]? = some s := ⟨_, List.getElem?_eq_getElem (by have := HM.out; omega)⟩
        have HST := Lib.hid (heard_step (t := t) (show Z[i]? = some (o, a) by rw [HZ.out]; exact zip_get ho1 ha1))
        have HAL := Lib.hid (HF.out a (List.mem_of_getElem? ha1))
        obtain ⟨b1, o1, rfl, hb1, c0, c1, hzz⟩ := od_cells (HA.out.below shOd ho.out.below) ho1
        clear hzz
        obtain ⟨b2, o2, y, rfl, hb2, d0, d1, d2, hy⟩ := an_cells (HB.out.below shAn ho.out.below) ha1
        obtain ⟨Ay, ny, cy, rfl⟩ := rd_form hy
        have HY := Lib.hid hy
        clear ho1 ha1 hy
        by_cases hw : o.w = t
        · by_cases hk : 11 ≤ o.k ∧ o.k ≤ 13
          · have HNX : Hid (heard t (Z.take (i + 1)) = heard t (Z.take i)) := Lib.hid (by
              rw [HST.out]
              have : hearB t o = false := by unfold hearB; simp [hk]
              rw [this]
              simp)
            have HIN := Lib.hid (fun w' : World => FloorS.l1In w' (x := o.k) (a := 11) (b := 13))
            rw [decide_eq_true hk] at HIN
            have hw2 : (o.w == t) = true := by simpa using hw
            go_wp2_with fail
            refine (HIN.out _).mono ?_
            rintro e w2 ⟨rfl, rfl⟩
            go_wp2
            go_roundw
            case rel => exact ⟨i + 1, by omega, by omega, by go_num, by rw [HNX.out]; exact ho⟩
            case measure => simp [intOf]; omega
          · have HNX : Hid (heard t (Z.take (i + 1)) = heard t (Z.take i) ++ [⟨a.c, a.n, a.d⟩]) := Lib.hid (by
              rw [HST.out]
              have : hearB t o = true := by unfold hearB; simp [hk, hw]
              rw [this]
              rfl)
            have HIN := Lib.hid (fun w' : World => FloorS.l1In w' (x := o.k) (a := 11) (b := 13))
            rw [decide_eq_false hk] at HIN
            have hw2 : (o.w == t) = true := by simpa using hw
            obtain ⟨A3, n3, c3, rfl⟩ := ho.out.form
            have HL3 : Hid ((heard t (Z.take i)).length ≤ 1048576) := Lib.hid (by
              unfold heard
              rw [List.length_map]
              refine Nat.le_trans (List.length_filter_le _ _) ?_
              rw [List.length_take]
              omega)
            have hbb : Below wr.heap.size wr (wr.alloc (.cells #[.int .i64 a.c, .int .i64 a.n, .slice Ay ny cy] 91)) := (Below.refl _ _).alloc (Nat.le_refl _) _
            have HBB := Lib.hid hbb
            have HCP := Lib.hid (FloorS.l1Bytes (wr.alloc (.cells #[.int .i64 a.c, .int .i64 a.n, .slice Ay ny cy] 91)) (HY.out.below hbb) HAL.out)
            have HK1 : Hid (Blk (wr.alloc (.cells #[.int .i64 a.c, .int .i64 a.n, .slice Ay ny cy] 91)) wr.heap.size #[.int .i64 a.c, .int .i64 a.n, .slice Ay ny cy] 91) := Lib.hid (Blk.new wr _ _)
            clear hbb
            go_wp2_with fail
            refine (HIN.out _).mono ?_
            rintro e w2 ⟨rfl, rfl⟩
            go_wp2_with fail
            refine HCP.out.mono ?_
            rintro e w2 ⟨y2, rfl, hy2, hb3⟩
            obtain ⟨A2, n2, c2, rfl⟩ := own_form hy2
            have HY2 := Lib.hid hy2
            have HB3 := Lib.hid hb3
            have HK2 := Lib.hid (blk_set (HK1.out.below hb3) 2 (.slice A2 n2 c2))
            have HB4 : Hid (Below (w2.setCell ⟨wr.heap.size, 2, none⟩ (.slice A2 n2 c2)).heap.size (w2.setCell ⟨wr.heap.size, 2, none⟩ (.slice A2 n2 c2)) ((w2.setCell ⟨wr.heap.size, 2, none⟩ (.slice A2 n2 c2)).alloc (.cells #[.int .i64 a.c, .int .i64 a.n, .slice A2 n2 c2] 91))) := Lib.hid ((Below.refl _ _).alloc (Nat.le_refl _) _)
            obtain ⟨⟨e0, e1, e2⟩, f0, f1, f2⟩ := blk3 (HK1.out.below hb3)
            have kg : wr.heap.size < w2.heap.size := (HK1.out.below hb3).lt
            have HG : Hid (wr.heap.size ≤ wr.heap.size ∧ wr.heap.size < (wr.alloc (.cells #[.int .i64 a.c, .int .i64 a.n, .slice Ay ny cy] 91)).heap.size) := Lib.hid ⟨Nat.le_refl _, HK1.out.lt⟩
            have HAPP := Lib.hid (He.app (c := a.c) (n := a.n) ho.out HBB.out HG.out HB3.out HY2.out HB4.out)
            have HCC : Hid (∀ q u, ([Value.int .i64 a.c, .int .i64 a.n, .slice A2 n2 c2])[q]? = some u → ((w2.setCell ⟨wr.heap.size, 2, none⟩ (.slice A2 n2 c2)).alloc (.cells #[.int .i64 a.c, .int .i64 a.n, .slice A2 n2 c2] 91)).cell? ⟨w2.heap.size, q, none⟩ = some u) := Lib.hid (fun q u hu => by
              have h1 := (Blk.new (w2.setCell ⟨wr.heap.size, 2, none⟩ (.slice A2 n2 c2)) #[.int .i64 a.c, .int .i64 a.n, .slice A2 n2 c2] 91).cell q
              rw [show (w2.setCell ⟨wr.heap.size, 2, none⟩ (.slice A2 n2 c2)).heap.size = w2.heap.size by simp] at h1
              rw [h1]
              simpa using hu)
            have HWL : Hid (w.heap.size ≤ ((w2.setCell ⟨wr.heap.size, 2, none⟩ (.slice A2 n2 c2)).alloc (.cells #[.int .i64 a.c, .int .i64 a.n, .slice A2 n2 c2] 91)).heap.size) := Lib.hid (by have := ho.out.below.size; simp; omega)
            clear hy2 hb3
            go_wp2_with (
              at_builtin
              obtain ⟨V, hV, hR, hVl, hlast⟩ := HAPP.out
              have HL4 : Hid ((anR (heard t (Z.take i)) V).length ≤ 1048576) := Lib.hid (by rw [hVl]; exact HL3.out)
              refine wpList_append_r rfl _ _ _ rfl _ 40 Try.underlying51 infoA rfl (by omega) hR w2.heap.size 1 (r := [.int .i64 a.c, .int .i64 a.n, .slice A2 n2 c2]) rfl HCC.out (by simp [Value.oneCell']) (by have := HL4.out; omega) (by have := HL4.out; unfold maxLen; omega) HWL.out rfl rfl ?_
              intro v' w5 hO5 hT5 hG5 hA5
              have HNW : Hid (He w v' (heard t (Z.take (i + 1))) w5) := Lib.hid (by
                rw [HNX.out]
                exact hlast v' w5 hO5 hT5 hG5 hA5)
              clear hO5 hT5 hG5 hA5 hlast hV hR hVl HL4)
            exact ⟨⟨i + 1, by omega, by omega, by go_num, HNW⟩, by simp [intOf]; omega⟩
        · have HNX : Hid (heard t (Z.take (i + 1)) = heard t (Z.take i)) := Lib.hid (by
            rw [HST.out]
            have : hearB t o = false := by unfold hearB; simp [hw]
            rw [this]
            simp)
          have hw2 : (o.w == t) = false := by simpa using hw
          go_wp2
          go_roundw
          case rel => exact ⟨i + 1, by omega, by omega, by go_num, by rw [HNX.out]; exact ho⟩
          case measure => simp [intOf]; omega
      · obtain rfl : i = m := by omega
        have HLL : Hid (heard t Z = heard t (Z.take i)) := Lib.hid (by rw [List.take_of_length_le (by have := HZL.out; omega)])
        go_wp2
        go_ret
        exact ⟨_, rfl, by rw [HLL.out]; exact ho.out⟩
    · obtain rfl : i = n := by omega
      have HLL : Hid (heard t Z = heard t (Z.take i)) := Lib.hid (by rw [List.take_of_length_le (by have := HZL.out; omega)])
      go_wp2
      go_ret
      exact ⟨_, rfl, by rw [HLL.out]; exact ho.out⟩
end Go.Proofs.Ytmipkngikimjgaa.HeardS

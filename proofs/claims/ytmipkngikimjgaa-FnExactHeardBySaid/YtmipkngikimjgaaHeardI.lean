/-
  The program's HeardBy (as it landed with stage 17): the answers that are heard, in memory of their own. At most 1048576 in all.
-/
import Derived.Test.YtmipkngikimjgaaAnsF
import Derived.Test.YtmipkngikimjgaaOrd
import Derived.Test.YtmipkngikimjgaaHeardS
import Derived.Test.YtmipkngikimjgaaFloorI
namespace Go.Proofs.Ytmipkngikimjgaa.HeardI
open Go.RowKit Go.Proofs.Ytmipkngikimjgaa.Mem Go.Proofs.Ytmipkngikimjgaa.Pure Go.Proofs.Ytmipkngikimjgaa.Help Go.Proofs.Ytmipkngikimjgaa.Seq Go.Proofs.Ytmipkngikimjgaa.Ints Go.Proofs.Ytmipkngikimjgaa.Nest Go.Proofs.Ytmipkngikimjgaa.Mods Go.Proofs.Ytmipkngikimjgaa.Ans Go.Proofs.Ytmipkngikimjgaa.Ord Go.Proofs.Ytmipkngikimjgaa.HeardS
set_option linter.unusedVariables false

set_option maxRecDepth 100000 in
theorem within (w : World) {x a b : Int} : Calls Try.prog 58 #[.int .i64 x, .int .i64 a, .int .i64 b] w (fun e w' => e = .returned (.bool (decide (a ≤ x ∧ x ≤ b))) ∧ w = w') := by
  by_cases h1 : a ≤ x
  · by_cases h2 : x ≤ b
    · rw [decide_eq_true ⟨h1, h2⟩]
      go_enter Try.func58, Try.ntmps58
      go_wp2
      go_ret
      exact ⟨rfl, rfl⟩
    · rw [decide_eq_false (by omega)]
      go_enter Try.func58, Try.ntmps58
      go_wp2
      go_ret
      exact ⟨rfl, rfl⟩
  · rw [decide_eq_false (by omega)]
    go_enter Try.func58, Try.ntmps58
    go_wp2
    go_ret
    exact ⟨rfl, rfl⟩

set_option maxRecDepth 100000 in
set_option maxHeartbeats 1000000 in
theorem copiedAnswer (w : World) {lo hi : Nat} {s n : Int} {d : List Int} {y : Value} (hy : Rd w lo hi y d) (hd : d.length ≤ 1048576) :
    Calls Try.prog 59 #[.agg #[.int .i64 s, .int .i64 n, y]] w (fun e w' => ∃ y', e = .returned (.agg #[.int .i64 s, .int .i64 n, y']) ∧ Own w' w.heap.size w'.heap.size y' d ∧ Below w.heap.size w w') := by
  have HX := Lib.hid (fun (w1 : World) (hb : Below w.heap.size w w1) => FloorI.copied w1 (hy.below hb) hd)
  obtain ⟨A, l, c, rfl⟩ := rd_form hy
  clear hy hd
  obtain ⟨w1, hw1⟩ : ∃ w1, w1 = (w.alloc (.cells #[.int .i64 s, .int .i64 n, .slice A l c] 91)).alloc (.cells #[.int .i64 0, .int .i64 0, .slice none 0 0] 91) := ⟨_, rfl⟩
  have HW1 := Lib.hid hw1
  have HB1 : Hid (Below w.heap.size w w1) := Lib.hid (by rw [hw1]; exact ((Below.refl _ _).alloc (Nat.le_refl _) _).alloc (by simp) _)
  have HS1 : Hid (w1.heap.size = w.heap.size + 2) := Lib.hid (by rw [hw1]; simp)
  have HK1 : Hid (Blk w1 w.heap.size #[.int .i64 s, .int .i64 n, .slice A l c] 91) := Lib.hid (by
    rw [hw1]
    exact (Blk.new w #[.int .i64 s, .int .i64 n, .slice A l c] 91).more _)
  have HO1 : Hid (Blk w1 (w.heap.size + 1) #[.int .i64 0, .int .i64 0, .slice none 0 0] 91) := Lib.hid (by
    rw [hw1]
    have := Blk.new (w.alloc (.cells #[.int .i64 s, .int .i64 n, .slice A l c] 91)) #[.int .i64 0, .int .i64 0, .slice none 0 0] 91
    simpa using this)
  clear hw1
  go_enter Try.func59, Try.ntmps59
  go_wp2_with fail
  rw [← HW1.out]
  refine (HX.out w1 HB1.out).mono ?_
  rintro e2 w2 ⟨x2, rfl, ho2, hb2⟩
  obtain ⟨Ay, ny, cy, rfl⟩ := own_form ho2
  have HR2 := Lib.hid ho2
  have HB2 := Lib.hid hb2
  have HK2 := Lib.hid (HK1.out.below hb2)
  have HO2 := Lib.hid (HO1.out.below hb2)
  obtain ⟨⟨a0, a1, a2⟩, z0, z1, z2⟩ := blk3 HK2.out
  obtain ⟨⟨d0, d1, d2⟩, e0, e1, e2⟩ := blk3 HO2.out
  have HB3 := Lib.hid (below_then HB1.out hb2 (Nat.le_refl _))
  clear ho2 hb2
  go_wp2
  refine bodyPost_ret (v := .agg #[.int .i64 s, .int .i64 n, .slice Ay ny cy]) (by simp [results, Try.results59, go_sem, d0, d1, d2]) rfl ?_
  have hq : Hid (w.heap.size ≤ w.heap.size + 1 ∧ w.heap.size + 1 < w1.heap.size) := Lib.hid (by have := HS1.out; omega)
  have hp : Hid (w.heap.size ≤ w.heap.size ∧ w.heap.size < w1.heap.size) := Lib.hid (by have := HS1.out; omega)
  have ht := (((only_in (lo := w.heap.size) (hi := w1.heap.size) (g := w.heap.size) w2 2 (.slice Ay ny cy) hp.out).trans (only_in (g := w.heap.size + 1) _ 0 (.int .i64 s) hq.out)).trans (only_in (g := w.heap.size + 1) _ 1 (.int .i64 n) hq.out)).trans (only_in (g := w.heap.size + 1) _ 2 (.slice Ay ny cy) hq.out)
  exact ⟨_, rfl, (HR2.out.touch ht (.inr (Nat.le_refl _))).more HB1.out.size ht.size, below_touch HB3.out ht (Nat.le_refl _) (Nat.le_refl _)⟩

set_option maxRecDepth 100000 in
/-- What append does behind a copy of one more: the row in w4, whose own block may move. -/
theorem He.app2 {w0 wr w1 w2 w4 : World} {v : Value} {K : List An} {c n : Int} {d : List Int} {y : Value} (h : He w0 v K wr)
    (hb1 : Below wr.heap.size wr w1) (hb2 : Below w1.heap.size w1 w2) (hy : Own w2 w1.heap.size w2.heap.size y d) (hb4 : Below w2.heap.size w2 w4) :
    ∃ V, V.length = K.length ∧ OwnR w4 w0.heap.size wr.heap.size 91 3 v (anR K V) ∧ (anR K V).length = K.length ∧
      ∀ (v' : Value) (w5 : World), OwnR w5 w0.heap.size w5.heap.size 91 3 v' (anR K V ++ [[.int .i64 c, .int .i64 n, y]]) → OnlyIn w0.heap.size wr.heap.size w4 w5 → w4.grownBy w5 v.ownBlock → (v'.ownBlock = v.ownBlock ∨ v'.ownBlock = some w4.heap.size) → He w0 v' (K ++ [⟨c, n, d⟩]) w5 := by
  have ho := ((h.own.below hb1).below hb2).below hb4
  have hbl : Below w0.heap.size w0 w4 := below_then (below_then (below_then h.below hb1 (Nat.le_refl _)) hb2 (Nat.le_refl _)) hb4 (Nat.le_refl _)
  obtain ⟨V, h1, h2, h3, h4, h5⟩ := ho
  refine ⟨V, h1, h2, anR_length h1, fun v' w5 p1 p2 p3 p4 => ⟨?_, below_touch hbl p2 (Nat.le_refl _) (Nat.le_refl _)⟩⟩
  have hy4 : Own w4 wr.heap.size w2.heap.size y d := (hy.below hb4).more hb1.size (Nat.le_refl _)
  exact OwnA.app (k := ⟨c, n, d⟩) h1 h3 h4 h5 h.below.size (Nat.le_trans hb1.size hb2.size) hb4.size (fun q hq => (h2.blk hq).2.1) hy4 p1 p3 p4

set_option maxRecDepth 100000 in
set_option maxHeartbeats 4000000 in
theorem heardBy (w : World) {la ha lb hb : Nat} {va vb : Value} {L : List Od} {M : List An} {t : Int} (hA : RdG 6 odS w la ha va L) (hB : RdG 3 anS w lb hb vb M) (hM : M.length ≤ 1048576) (hF : ∀ k ∈ M, anC k ≤ 1048576) :
    Calls Try.prog 30 #[va, vb, .int .i64 t] w (fun e w' => ∃ v, e = .returned v ∧ He w v (heard t (L.zip M)) w') := by
  have HA := Lib.hid hA
  have HB := Lib.hid hB
  have HF := Lib.hid hF
  obtain ⟨A, ca, rfl, hca, hma⟩ := hA.form
  obtain ⟨B, cb, rfl, hcb, hmb⟩ := hB.form
  clear hA hB hF
  obtain ⟨n, hn⟩ : ∃ n, n = L.length := ⟨_, rfl⟩
  obtain ⟨m, hm⟩ : ∃ m, m = M.length := ⟨_, rfl⟩
  have HN := Lib.hid hn
  have HM := Lib.hid hm
  rw [← hn] at HA hca ⊢
  rw [← hm] at HB hcb hM ⊢
  have hnm : ca ≤ 9223372036854775807 := by unfold maxLen at hma; omega
  obtain ⟨Z, hZ⟩ : ∃ Z, Z = L.zip M := ⟨_, rfl⟩
  have HZ := Lib.hid hZ
  rw [← hZ]
  have HZL : Hid (Z.length = min n m) := Lib.hid (by rw [hZ, List.length_zip, hn, hm])
  clear hn hm hma hcb hmb hZ
  have H0 : Hid (He w (.slice (some ⟨w.heap.size, 0, none⟩) 0 0) (heard t (Z.take 0)) (w.alloc (.cells #[] 91))) := Lib.hid ⟨ownA_nil w _ (Nat.le_refl _), (Below.refl _ _).alloc (Nat.le_refl _) _⟩
  obtain ⟨k, hk⟩ : ∃ k, k = min n m := ⟨_, rfl⟩
  rw [← hk] at HZL
  have HKN : Hid (k ≤ L.length) := Lib.hid (by have := HN.out; omega)
  have HKM : Hid (k ≤ M.length) := Lib.hid (by have := HM.out; omega)
  have hkca : k ≤ ca := by omega
  have hkc : (k = n ∧ n ≤ m) ∨ (k = m ∧ ¬ n ≤ m) := by omega
  clear hk HN HM hca
  have hkm : k ≤ m := by omega
  have hmi : m ≤ 9223372036854775807 := by omega
  rcases hkc with ⟨e, hnm2⟩ | ⟨e, hnm2⟩
  all_goals subst e
  all_goals go_enter Try.func30, Try.ntmps30
  all_goals go_wp2_with fail
  all_goals (
    go_loopw [7, 19] (fun ov iv wr => ∃ i : Nat, i ≤ k ∧ iv = .int .i64 i ∧ Hid (He w ov (heard t (Z.take i)) wr)) (fun _ iv _ => k - (intOf iv).toNat)
    case atStart => exact ⟨0, Nat.zero_le _, rfl, H0⟩
    case round =>
      obtain ⟨i, hi, rfl, ho⟩ := hrel
      clear H0
      by_cases hin : i < k
      · obtain ⟨o, ho1⟩ : ∃ s, L[i]? = some s := ⟨_, List.getElem?_eq_getElem (by have := HKN.out; omega)⟩
        obtain ⟨a, ha1⟩ : ∃ s, M[i]? = some s := ⟨_, List.getElem?_eq_getElem (by have := HKM.out; omega)⟩
        obtain ⟨b1, o1, rfl, hb1, c0, c1, c2, c3, c4, c5⟩ := od_cells (HA.out.below shOd ho.out.below) ho1
        have hbo : Below wr.heap.size wr (wr.alloc (.cells #[.int .i64 o.k, .int .i64 o.w, .int .i64 o.a, .int .i64 o.b, .int .i64 o.c, .string o.x] 90)) := (Below.refl _ _).alloc (Nat.le_refl _) _
        have HOB := Lib.hid (ho.out.step hbo)
        have HBO := Lib.hid hbo
        clear hbo
        have HST := Lib.hid (heard_step (t := t) (show Z[i]? = some (o, a) by rw [HZ.out]; exact zip_get ho1 ha1))
        have HAL := Lib.hid (HF.out a (List.mem_of_getElem? ha1))
        obtain ⟨b2, o2, y, rfl, hb2, d0, d1, d2, hy⟩ := an_cells (HB.out.below shAn ho.out.below) ha1
        obtain ⟨Ay, ny, cy, rfl⟩ := rd_form hy
        have HY := Lib.hid hy
        clear ho1 ha1 hy
        by_cases hw : o.w = t
        · by_cases hk : 11 ≤ o.k ∧ o.k ≤ 13
          · have HNX : Hid (heard t (Z.take (i + 1)) = heard t (Z.take i)) := Lib.hid (by
              rw [HST.out]
              have : hearB t o = false := by unfold hearB; simp [hk]
              rw [this]
              simp)
            have HIN := Lib.hid (fun w' : World => within w' (x := o.k) (a := 11) (b := 13))
            rw [decide_eq_true hk] at HIN
            subst hw
            go_wp2_with fail
            refine (HIN.out _).mono ?_
            rintro e w2 ⟨rfl, rfl⟩
            go_wp2
            go_roundw
            case rel => exact ⟨i + 1, by omega, by go_num, by rw [HNX.out]; exact HOB⟩
            case measure => simp [intOf]; omega
          · have HNX : Hid (heard t (Z.take (i + 1)) = heard t (Z.take i) ++ [⟨a.c, a.n, a.d⟩]) := Lib.hid (by
              rw [HST.out]
              have : hearB t o = true := by unfold hearB; simp [hk, hw]
              rw [this]
              rfl)
            have HIN := Lib.hid (fun w' : World => within w' (x := o.k) (a := 11) (b := 13))
            rw [decide_eq_false hk] at HIN
            obtain ⟨A3, n3, c3', rfl⟩ := ho.out.form
            have HL3 : Hid ((heard t (Z.take i)).length ≤ 1048576) := Lib.hid (by
              unfold heard
              rw [List.length_map]
              refine Nat.le_trans (List.length_filter_le _ _) ?_
              rw [List.length_take]
              omega)
            subst hw
            have HCP := Lib.hid (copiedAnswer (s := a.c) (n := a.n) (wr.alloc (.cells #[.int .i64 o.k, .int .i64 o.w, .int .i64 o.a, .int .i64 o.b, .int .i64 o.c, .string o.x] 90)) (HY.out.below HBO.out) HAL.out)
            go_wp2_with fail
            refine (HIN.out _).mono ?_
            rintro e w2 ⟨rfl, rfl⟩
            go_wp2_with fail
            refine HCP.out.mono ?_
            rintro e w2 ⟨y2, rfl, hy2, hb3⟩
            obtain ⟨A2, n2, c2', rfl⟩ := own_form hy2
            have HY2 := Lib.hid hy2
            have HB3 := Lib.hid hb3
            have HB4 : Hid (Below w2.heap.size w2 (w2.alloc (.cells #[.int .i64 a.c, .int .i64 a.n, .slice A2 n2 c2'] 91))) := Lib.hid ((Below.refl _ _).alloc (Nat.le_refl _) _)
            have HAPP := Lib.hid (He.app2 (c := a.c) (n := a.n) ho.out HBO.out HB3.out HY2.out HB4.out)
            have HCC : Hid (∀ q u, ([Value.int .i64 a.c, .int .i64 a.n, .slice A2 n2 c2'])[q]? = some u → (w2.alloc (.cells #[.int .i64 a.c, .int .i64 a.n, .slice A2 n2 c2'] 91)).cell? ⟨w2.heap.size, q, none⟩ = some u) := Lib.hid (fun q u hu => by
              have h1 := (Blk.new w2 #[.int .i64 a.c, .int .i64 a.n, .slice A2 n2 c2'] 91).cell q
              rw [h1]
              simpa using hu)
            have HWL : Hid (w.heap.size ≤ (w2.alloc (.cells #[.int .i64 a.c, .int .i64 a.n, .slice A2 n2 c2'] 91)).heap.size) := Lib.hid (Nat.le_trans ho.out.below.size (Nat.le_trans HBO.out.size (Nat.le_trans HB3.out.size HB4.out.size)))
            clear hy2 hb3
            go_wp2_with (
              at_builtin
              obtain ⟨V, hV, hR, hVl, hlast⟩ := HAPP.out
              have HL4 : Hid ((anR (heard o.w (Z.take i)) V).length ≤ 1048576) := Lib.hid (by rw [hVl]; exact HL3.out)
              refine wpList_append_r rfl _ _ _ rfl _ 40 Try.underlying51 infoA rfl (by omega) hR w2.heap.size 1 (r := [.int .i64 a.c, .int .i64 a.n, .slice A2 n2 c2']) rfl HCC.out (by simp [Value.oneCell']) (by have := HL4.out; omega) (by have := HL4.out; unfold maxLen; omega) HWL.out rfl rfl ?_
              intro v' w5 hO5 hT5 hG5 hA5
              have HNW : Hid (He w v' (heard o.w (Z.take (i + 1))) w5) := Lib.hid (by
                rw [HNX.out]
                exact hlast v' w5 hO5 hT5 hG5 hA5)
              clear hO5 hT5 hG5 hA5 hlast hV hR hVl HL4)
            exact ⟨⟨i + 1, by omega, by go_num, HNW⟩, by simp [intOf]; omega⟩
        · have HNX : Hid (heard t (Z.take (i + 1)) = heard t (Z.take i)) := Lib.hid (by
            rw [HST.out]
            have : hearB t o = false := by unfold hearB; simp [hw]
            rw [this]
            simp)
          have hw2 : (o.w == t) = false := by simpa using hw
          go_wp2
          go_roundw
          case rel => exact ⟨i + 1, by omega, by go_num, by rw [HNX.out]; exact HOB⟩
          case measure => simp [intOf]; omega
      · obtain rfl : i = k := by omega
        have HLL : Hid (heard t Z = heard t (Z.take i)) := Lib.hid (by rw [List.take_of_length_le (by have := HZL.out; omega)])
        go_wp2
        go_ret
        exact ⟨_, rfl, by rw [HLL.out]; exact ho.out⟩)
end Go.Proofs.Ytmipkngikimjgaa.HeardI

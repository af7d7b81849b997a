/-
  The model's chapter 1 (package spec): what each of its functions hands back, in the words of Pure. Lengths to 1048576, numbers of 64 bits.
-/
import Derived.Test.YtamgikcoknkghaaFloorI
namespace Go.Proofs.Ytamgikcoknkghaa.FloorS
open Go.RowKit Go.Proofs.Ytamgikcoknkghaa.Mem Go.Proofs.Ytamgikcoknkghaa.Pure Go.Proofs.Ytamgikcoknkghaa.Help Go.Proofs.Ytamgikcoknkghaa.FloorI
set_option linter.unusedVariables false

set_option maxHeartbeats 400000 in
theorem l1Bytes (w : World) {lo hi : Nat} {v : Value} {L : List Int} (h : Rd w lo hi v L) (hL : L.length ≤ 1048576) :
    Calls Try.prog 43 #[v] w (RetB w L) := by
  have HR := Lib.hid h
  clear h
  have ho := own_made w w.heap.size (Nat.le_refl _)
  have hr := HR.out.below ((Below.refl _ _).alloc (Nat.le_refl _) (.cells #[] 5))
  have HB : Hid (Below w.heap.size w (w.alloc (.cells #[] 5))) := (Below.refl _ _).alloc (Nat.le_refl _) _
  go_enter Try.func43, Try.ntmps43
  go_wp2_with (at_builtin; refine wpList_append_b rfl _ _ 22 rfl Try.underlying22 infoB ho hr rfl rfl ?_ ?_ ?_)
  · simp; omega
  · simp
  · intro v' w2 ho2 ht2
    have HO := Lib.hid ho2
    have HT := Lib.hid ht2
    clear ho2 ht2 ho hr
    go_wp2
    go_ret
    exact ⟨_, rfl, HO.out, below_touch HB.out HT.out (Nat.le_refl _) (Nat.le_refl _)⟩

set_option maxHeartbeats 400000 in
theorem l1In (w : World) {x a b : Int} : Calls Try.prog 47 #[.int .i64 x, .int .i64 a, .int .i64 b] w (fun e w' => e = .returned (.bool (decide (a ≤ x ∧ x ≤ b))) ∧ w = w') := by
  by_cases h1 : a ≤ x
  · by_cases h2 : x ≤ b
    · rw [decide_eq_true ⟨h1, h2⟩]
      go_enter Try.func47, Try.ntmps47
      go_wp2
      go_ret
      exact ⟨rfl, rfl⟩
    · rw [decide_eq_false (by omega)]
      go_enter Try.func47, Try.ntmps47
      go_wp2
      go_ret
      exact ⟨rfl, rfl⟩
  · rw [decide_eq_false (by omega)]
    go_enter Try.func47, Try.ntmps47
    go_wp2
    go_ret
    exact ⟨rfl, rfl⟩

set_option maxHeartbeats 400000 in
theorem l1There (w : World) {lo hi : Nat} {v : Value} {L : List Int} (h : Rd w lo hi v L) (hL : L.length ≤ 1048576) {a n : Int} (ha : I64 a) (hn : I64 n) :
    Calls Try.prog 42 #[v, .int .i64 a, .int .i64 n] w (fun e w' => e = .returned (.bool (there L a n)) ∧ w = w') := by
  obtain ⟨A, c, rfl, hc, hm, _⟩ := h
  unfold there
  obtain ⟨l, hl⟩ : ∃ l, l = L.length := ⟨_, rfl⟩
  rw [← hl] at hL ⊢
  clear hl hm hc
  unfold I64 at ha hn
  obtain ⟨a1, a2⟩ := ha
  obtain ⟨n1, n2⟩ := hn
  by_cases h1 : l ≤ 1024
  · by_cases h2 : 0 ≤ a ∧ a ≤ l
    · by_cases h3 : 0 ≤ n ∧ n ≤ (l : Int) - a
      · rw [decide_eq_true (by omega)]
        go_enter Try.func42, Try.ntmps42
        go_wp2_with (go_at_call 47; refine (l1In _).mono ?_; rintro e w1 ⟨rfl, rfl⟩)
        go_ret
        exact ⟨by first | rfl | simp, rfl⟩
      · rw [decide_eq_false (by omega)]
        go_enter Try.func42, Try.ntmps42
        go_wp2_with (go_at_call 47; refine (l1In _).mono ?_; rintro e w1 ⟨rfl, rfl⟩)
        go_ret
        exact ⟨by first | rfl | simp, rfl⟩
    · rw [decide_eq_false (by omega)]
      go_enter Try.func42, Try.ntmps42
      go_wp2_with (go_at_call 47; refine (l1In _).mono ?_; rintro e w1 ⟨rfl, rfl⟩)
      go_ret
      exact ⟨by first | rfl | simp, rfl⟩
  · rw [decide_eq_false (by omega)]
    go_enter Try.func42, Try.ntmps42
    go_wp2
    go_ret
    exact ⟨by first | rfl | simp, rfl⟩

set_option maxHeartbeats 400000 in
theorem l1Lay (w : World) {lo hi lo2 hi2 : Nat} {v vd : Value} {L M : List Int} (h : Own w lo hi v L) (hd : Rd w lo2 hi2 vd M) (hdis : hi2 ≤ lo ∨ hi ≤ lo2) (hL : L.length ≤ 1048576) {k : Nat} (hk : k + M.length ≤ L.length) :
    Calls Try.prog 44 #[v, .int .i64 k, vd] w (RetS w lo hi v (splice L k M)) := by
  have HD := Lib.hid hd
  have HO := Lib.hid h
  obtain ⟨A, c, rfl, _, hm, _⟩ := h.rd
  obtain ⟨D, dc, rfl, _, hdm, _⟩ := hd
  obtain ⟨m, hm0⟩ : ∃ m, m = M.length := ⟨_, rfl⟩
  obtain ⟨l, hl0⟩ : ∃ l, l = L.length := ⟨_, rfl⟩
  have HM := Lib.hid hm0
  have HLL := Lib.hid hl0
  rw [← hm0] at HD hk ⊢
  rw [← hl0] at HO hL hk ⊢
  clear hm0 hl0 hm hdm h
  go_enter Try.func44, Try.ntmps44
  go_wp2_with fail
  go_loopw [7] (fun i wr => ∃ j : Nat, j ≤ m ∧ i = .int .i64 j ∧ Hid (Own wr lo hi (.slice A l c) (splice L k (M.take j))) ∧ Hid (OnlyIn lo hi w wr))
    (fun i _ => m - (intOf i).toNat)
  case atStart => exact ⟨0, Nat.zero_le _, rfl, (Lib.hid (by simpa [splice] using HO.out)), OnlyIn.refl _ _ _⟩
  case round =>
    obtain ⟨j, hj, rfl, ho, hb⟩ := hrel
    by_cases hlt : j < m
    · have hlen : (splice L k (M.take j)).length = l := by rw [splice_length, HLL.out]; have := HM.out; have := HLL.out; rw [List.length_take]; omega
      obtain ⟨g, hg1, _, _, hgc, hgf, hgs⟩ := ho.out.put (k := k + j) (by omega)
      subst hg1
      obtain ⟨y, hgc'⟩ : ∃ y, wr.cell? ⟨g, k + j, none⟩ = some (.int .u8 y) := ⟨_, hgc⟩
      obtain ⟨b, o, hA, _, _, hck⟩ := (HD.out.touch hb.out hdis).spot (k := j) (by have := HM.out; omega)
      subst hA
      obtain ⟨x, hx⟩ : ∃ x, x = M.getD j 0 := ⟨_, rfl⟩
      rw [← hx] at hck
      obtain ⟨hs1, hs2⟩ := hgs x
      have e : (splice L k (M.take j)).set (k + j) x = splice L k (M.take (j + 1)) := by
        have hjm : j < M.length := by have := HM.out; omega
        have hx' : x = M[j] := by rw [hx, List.getD_eq_getElem?_getD, List.getElem?_eq_getElem hjm]; rfl
        have hkl : k + (j + 1) ≤ L.length := by have := HLL.out; omega
        apply List.ext_getElem?
        intro i
        rw [List.getElem?_set, getElem?_splice _ _ _ (by rw [List.length_take]; omega), getElem?_splice _ _ _ (by rw [List.length_take]; omega)]
        simp only [List.length_take, List.getElem?_take, hlen]
        by_cases a0 : k + j = i
        · subst a0
          rw [if_pos rfl, if_pos (by omega), if_neg (by omega), if_pos (by omega), if_pos (by omega), show k + j - k = j by omega, hx', List.getElem?_eq_getElem hjm]
        · rw [if_neg a0]
          by_cases a1 : i < k
          · rw [if_pos a1, if_pos a1]
          · rw [if_neg a1, if_neg a1]
            by_cases a2 : i < k + j
            · rw [if_pos (by omega), if_pos (by omega), if_pos (by omega), if_pos (by omega)]
            · rw [if_neg (by omega), if_neg (by omega)]
      rw [e] at hs1
      have HS := Lib.hid hs1
      have HT := Lib.hid hs2
      clear hgs hs1 hs2 hgc ho hx e hlen
      go_wp2
      go_roundw
      case rel => exact ⟨j + 1, by omega, by go_num, HS, hb.out.trans HT.out⟩
      case measure => simp [intOf]; omega
    · obtain rfl : j = m := by omega
      go_wp2
      go_ret
      have := ho.out
      rw [List.take_of_length_le (by have := HM.out; omega)] at this
      exact ⟨rfl, this, hb.out⟩

set_option maxHeartbeats 400000 in
theorem l1Wipe (w : World) {lo hi : Nat} {v : Value} {L : List Int} (h : Own w lo hi v L) (hL : L.length ≤ 1048576) {k m : Nat} (hk : k + m ≤ L.length) :
    Calls Try.prog 49 #[v, .int .i64 k, .int .i64 m] w (RetS w lo hi v (splice L k (List.replicate m 0))) := by
  have HO := Lib.hid h
  obtain ⟨A, c, rfl, _, hm, _⟩ := h.rd
  obtain ⟨l, hl0⟩ : ∃ l, l = L.length := ⟨_, rfl⟩
  have HLL := Lib.hid hl0
  rw [← hl0] at HO hL hk ⊢
  clear hl0 hm h
  go_enter Try.func49, Try.ntmps49
  go_wp2_with fail
  go_loopw [7] (fun i wr => ∃ j : Nat, j ≤ m ∧ i = .int .i64 j ∧ Hid (Own wr lo hi (.slice A l c) (splice L k (List.replicate j 0))) ∧ Hid (OnlyIn lo hi w wr))
    (fun i _ => m - (intOf i).toNat)
  case atStart => exact ⟨0, Nat.zero_le _, rfl, (Lib.hid (by simpa [splice] using HO.out)), OnlyIn.refl _ _ _⟩
  case round =>
    obtain ⟨j, hj, rfl, ho, hb⟩ := hrel
    by_cases hlt : j < m
    · have hlen : (splice L k (List.replicate j 0)).length = l := by rw [splice_length, HLL.out]; have := HLL.out; rw [List.length_replicate]; omega
      obtain ⟨g, hg1, _, _, hgc, hgf, hgs⟩ := ho.out.put (k := k + j) (by omega)
      subst hg1
      obtain ⟨y, hgc'⟩ : ∃ y, wr.cell? ⟨g, k + j, none⟩ = some (.int .u8 y) := ⟨_, hgc⟩
      obtain ⟨hs1, hs2⟩ := hgs 0
      have e : (splice L k (List.replicate j 0)).set (k + j) 0 = splice L k (List.replicate (j + 1) 0) := by
        have hkl : k + (j + 1) ≤ L.length := by have := HLL.out; omega
        apply List.ext_getElem?
        intro i
        rw [List.getElem?_set, getElem?_splice _ _ _ (by rw [List.length_replicate]; omega), getElem?_splice _ _ _ (by rw [List.length_replicate]; omega)]
        simp only [List.length_replicate, List.getElem?_replicate, hlen]
        by_cases a0 : k + j = i
        · subst a0
          rw [if_pos rfl, if_pos (by omega), if_neg (by omega), if_pos (by omega), if_pos (by omega)]
        · rw [if_neg a0]
          by_cases a1 : i < k
          · rw [if_pos a1, if_pos a1]
          · rw [if_neg a1, if_neg a1]
            by_cases a2 : i < k + j
            · rw [if_pos (by omega), if_pos (by omega), if_pos (by omega), if_pos (by omega)]
            · rw [if_neg (by omega), if_neg (by omega)]
      rw [e] at hs1
      have HS := Lib.hid hs1
      have HT := Lib.hid hs2
      clear hgs hs1 hs2 hgc ho e hlen
      go_wp2
      go_roundw
      case rel => exact ⟨j + 1, by omega, by go_num, HS, hb.out.trans HT.out⟩
      case measure => simp [intOf]; omega
    · obtain rfl : j = m := by omega
      go_wp2
      go_ret
      exact ⟨rfl, ho.out, hb.out⟩

theorem part_like {A A' : Option Addr} {m c c' n' a n : Nat} (hn : n' = n) (hc : n ≤ c') (hm : c' ≤ maxLen) (hA : 0 < n → A' = A.map (·.add a)) : PartIn (.slice A m c) (.slice A' n' c') a n := by
  subst hn
  exact ⟨A, m, c, A', c', rfl, rfl, hc, hm, hA⟩

set_option maxHeartbeats 400000 in
theorem l1Push (w : World) {lo hi : Nat} {v : Value} {L : List Int} (h : Own w lo hi v L) (hhi : hi ≤ w.heap.size) (hL : L.length ≤ 1048576) {F T N : Nat} (hFN : F + N ≤ L.length) (hTF : T ≤ F) :
    Calls Try.prog 48 #[v, .int .i64 F, .int .i64 T, .int .i64 N] w (RetS w lo hi v (splice (splice L F (List.replicate N 0)) T ((L.drop F).take N))) := by
  have hrd := h.rd
  have HO := Lib.hid h
  obtain ⟨A, c, rfl, hlc, hm, _⟩ := h.rd
  have HR := Lib.hid hrd
  obtain ⟨l, hl0⟩ : ∃ l, l = L.length := ⟨_, rfl⟩
  have HLL := Lib.hid hl0
  rw [← hl0] at HO HR hL hFN hlc ⊢
  have HM := Lib.hid hm
  clear hl0 hm h hrd
  have fin : ∀ (d : Value) (w1 : World), Rd w lo hi d ((L.drop F).take N) → Calls Try.prog 43 #[d] w (RetB w ((L.drop F).take N)) :=
    fun d w1 hd => l1Bytes w hd (by have := HLL.out; rw [List.length_take, List.length_drop]; omega)
  have HF := Lib.hid fin
  clear fin
  have hcF : c = F ∧ N = 0 ∨ ¬ c = F := by omega
  rcases hcF with ⟨rfl, rfl⟩ | hcF
  · go_enter Try.func48, Try.ntmps48
    go_wp2_with fail
    refine (HF.out _ w (HR.out.part (part_like (by first | rfl | omega) (by first | exact Nat.zero_le _ | omega) (by have := HM.out; omega) (fun h => by first | rfl | exact absurd h (Nat.lt_irrefl _) | (exfalso; revert h; simp))) (by have := HLL.out; omega))).mono ?_
    rintro e w1 ⟨d1, rfl, ho1, hb1⟩
    have HO1 := Lib.hid ho1
    have HB1 := Lib.hid hb1
    clear ho1 hb1
    go_wp2_with fail
    refine (l1Wipe w1 (k := c) (m := 0) (HO.out.below HB1.out) (by have := HLL.out; omega) (by have := HLL.out; omega)).mono ?_
    rintro e w2 ⟨rfl, ho2, ht2⟩
    have HO2 := Lib.hid ho2
    have HT2 := Lib.hid ht2
    clear ho2 ht2
    go_wp2_with fail
    refine (l1Lay w2 (k := T) HO2.out (HO1.out.rd.touch HT2.out (.inr hhi)) (.inr hhi) ?_ ?_).mono ?_
    · rw [splice_length (by rw [List.length_replicate]; have := HLL.out; omega)]; have := HLL.out; omega
    · rw [splice_length (by rw [List.length_replicate]; have := HLL.out; omega), List.length_take, List.length_drop]; have := HLL.out; omega
    rintro e w3 ⟨rfl, ho3, ht3⟩
    have HO3 := Lib.hid ho3
    have HT3 := Lib.hid ht3
    clear ho3 ht3
    go_wp2
    go_ret
    exact ⟨rfl, HO3.out, ((OnlyIn.of_below HB1.out).trans HT2.out).trans HT3.out⟩
  · go_enter Try.func48, Try.ntmps48
    go_wp2_with fail
    refine (HF.out _ w (HR.out.part (part_like (by first | rfl | omega) (by first | exact Nat.zero_le _ | omega) (by have := HM.out; omega) (fun h => by first | rfl | exact absurd h (Nat.lt_irrefl _) | (exfalso; revert h; simp))) (by have := HLL.out; omega))).mono ?_
    rintro e w1 ⟨d1, rfl, ho1, hb1⟩
    have HO1 := Lib.hid ho1
    have HB1 := Lib.hid hb1
    clear ho1 hb1
    go_wp2_with fail
    refine (l1Wipe w1 (k := F) (m := N) (HO.out.below HB1.out) (by have := HLL.out; omega) (by have := HLL.out; omega)).mono ?_
    rintro e w2 ⟨rfl, ho2, ht2⟩
    have HO2 := Lib.hid ho2
    have HT2 := Lib.hid ht2
    clear ho2 ht2
    go_wp2_with fail
    refine (l1Lay w2 (k := T) HO2.out (HO1.out.rd.touch HT2.out (.inr hhi)) (.inr hhi) ?_ ?_).mono ?_
    · rw [splice_length (by rw [List.length_replicate]; have := HLL.out; omega)]; have := HLL.out; omega
    · rw [splice_length (by rw [List.length_replicate]; have := HLL.out; omega), List.length_take, List.length_drop]; have := HLL.out; omega
    rintro e w3 ⟨rfl, ho3, ht3⟩
    have HO3 := Lib.hid ho3
    have HT3 := Lib.hid ht3
    clear ho3 ht3
    go_wp2
    go_ret
    exact ⟨rfl, HO3.out, ((OnlyIn.of_below HB1.out).trans HT2.out).trans HT3.out⟩

set_option maxHeartbeats 400000 in
theorem partOf (w : World) {lo hi : Nat} {v : Value} {L : List Int} (h : Rd w lo hi v L) (hL : L.length ≤ 1048576) {a n : Int} (ha : I64 a) (hn : I64 n) :
    Calls Try.prog 12 #[v, .int .i64 a, .int .i64 n] w (RetBB w (partL L a n) (there L a n)) := by
  have HQ := Lib.hid (l1There w h hL ha hn)
  unfold partL
  by_cases hth : there L a n = true
  · obtain ⟨k, m, rfl, rfl, h1, h2⟩ := there_nat hth
    rw [hth] at HQ ⊢
    clear hth
    rw [if_pos rfl]
    have HR := Lib.hid h
    obtain ⟨A, c, rfl, hc, hm, _⟩ := h
    have hc1 : k + m ≤ c := by omega
    have HM := Lib.hid hm
    clear hm hc
    have hcF : c = k ∧ m = 0 ∨ ¬ c = k := by omega
    rcases hcF with ⟨rfl, rfl⟩ | hcF
    all_goals
      go_enter Try.func12, Try.ntmps12
      go_wp2_with (go_at_call 42; refine HQ.out.mono ?_; rintro e w1 ⟨rfl, rfl⟩)
      refine (l1Bytes w (HR.out.part (part_like (by first | rfl | omega) (by first | exact Nat.zero_le _ | omega) (by have := HM.out; omega) (fun h => by first | rfl | exact absurd h (Nat.lt_irrefl _) | (exfalso; revert h; simp))) h1) (by rw [List.length_take, List.length_drop]; omega)).mono ?_
      rintro e w3 ⟨d3, rfl, ho3, hb3⟩
      have HO := Lib.hid ho3
      clear ho3
      go_wp2
      go_ret2
      exact ⟨_, rfl, by simpa [piece] using HO.out, hb3⟩
  · have hth' : there L a n = false := by simpa using hth
    rw [hth'] at HQ ⊢
    clear hth hth'
    rw [if_neg (by simp)]
    go_enter Try.func12, Try.ntmps12
    go_wp2_with (go_at_call 42; refine HQ.out.mono ?_; rintro e w1 ⟨rfl, rfl⟩)
    go_ret2
    exact ⟨_, rfl, own_made w _ (Nat.le_refl _), (Below.refl _ _).alloc (Nat.le_refl _) _⟩

set_option maxHeartbeats 400000 in
theorem laid (w : World) {lo hi lo2 hi2 : Nat} {v vd : Value} {L M : List Int} (h : Rd w lo hi v L) (hd : Rd w lo2 hi2 vd M) (h2 : hi2 ≤ w.heap.size) (hL : L.length ≤ 1048576) (hM : M.length ≤ 1048576) {a : Int} (ha : I64 a) :
    Calls Try.prog 15 #[v, .int .i64 a, vd] w (RetBB w (laidL L a M) (there L a M.length)) := by
  have HQ := Lib.hid (fun w' (hb : Below w.heap.size w w') => l1There w' (h.below hb) hL ha (show I64 (M.length : Int) by unfold I64; omega))
  have HC := Lib.hid (l1Bytes w h hL)
  have HD := Lib.hid hd
  have HH := Lib.hid h2
  obtain ⟨D, dc, rfl, hdc, hdm, _⟩ := hd
  obtain ⟨l, hl⟩ : ∃ l, l = M.length := ⟨_, rfl⟩
  have HL := Lib.hid hl
  unfold laidL
  rw [← hl] at HQ hM HD ⊢
  clear hl hdc hdm h2
  by_cases hth : there L a l = true
  · obtain ⟨k, m, rfl, hm, h1, h2⟩ := there_nat hth
    obtain rfl : l = m := by omega
    rw [hth] at HQ ⊢
    clear hth hm
    rw [if_pos rfl]
    go_enter Try.func15, Try.ntmps15
    go_wp2_with fail
    refine HC.out.mono ?_
    rintro e w1 ⟨v1, rfl, ho1, hb1⟩
    have HO1 := Lib.hid ho1
    clear ho1
    go_wp2_with (go_at_call 42; refine (HQ.out _ hb1).mono ?_; rintro e w2 ⟨rfl, rfl⟩)
    refine (l1Lay w1 HO1.out (HD.out.below hb1) (.inl HH.out) hL (by have := HL.out; omega)).mono ?_
    rintro e w4 ⟨rfl, ho4, ht4⟩
    have HO := Lib.hid ho4
    have HT := Lib.hid ht4
    clear ho4 ht4
    go_wp2
    go_ret2
    exact ⟨_, rfl, HO.out.more (Nat.le_refl _) HT.out.size, below_touch hb1 HT.out (Nat.le_refl _) (Nat.le_refl _)⟩
  · have hth' : there L a l = false := by simpa using hth
    rw [hth'] at HQ ⊢
    clear hth hth'
    rw [if_neg (by simp)]
    go_enter Try.func15, Try.ntmps15
    go_wp2_with fail
    refine HC.out.mono ?_
    rintro e w1 ⟨v1, rfl, ho1, hb1⟩
    have HO1 := Lib.hid ho1
    clear ho1
    go_wp2_with (go_at_call 42; refine (HQ.out _ hb1).mono ?_; rintro e w2 ⟨rfl, rfl⟩)
    go_ret2
    exact ⟨_, rfl, HO1.out, hb1⟩

set_option maxHeartbeats 400000 in
theorem wiped (w : World) {lo hi : Nat} {v : Value} {L : List Int} (h : Rd w lo hi v L) (hL : L.length ≤ 1048576) {a n : Int} (ha : I64 a) (hn : I64 n) :
    Calls Try.prog 20 #[v, .int .i64 a, .int .i64 n] w (RetBB w (wipedL L a n) (there L a n)) := by
  have HQ := Lib.hid (fun w' (hb : Below w.heap.size w w') => l1There w' (h.below hb) hL ha hn)
  have HC := Lib.hid (l1Bytes w h hL)
  unfold wipedL
  by_cases hth : there L a n = true
  · obtain ⟨k, m, rfl, rfl, h1, h2⟩ := there_nat hth
    rw [hth] at HQ ⊢
    clear hth
    rw [if_pos rfl]
    go_enter Try.func20, Try.ntmps20
    go_wp2_with fail
    refine HC.out.mono ?_
    rintro e w1 ⟨v1, rfl, ho1, hb1⟩
    have HO1 := Lib.hid ho1
    clear ho1
    go_wp2_with (go_at_call 42; refine (HQ.out _ hb1).mono ?_; rintro e w2 ⟨rfl, rfl⟩)
    refine (l1Wipe w1 (k := k) (m := m) HO1.out hL h1).mono ?_
    rintro e w4 ⟨rfl, ho4, ht4⟩
    have HO := Lib.hid ho4
    have HT := Lib.hid ht4
    clear ho4 ht4
    go_wp2
    go_ret2
    exact ⟨_, rfl, HO.out.more (Nat.le_refl _) HT.out.size, below_touch hb1 HT.out (Nat.le_refl _) (Nat.le_refl _)⟩
  · have hth' : there L a n = false := by simpa using hth
    rw [hth'] at HQ ⊢
    clear hth hth'
    rw [if_neg (by simp)]
    go_enter Try.func20, Try.ntmps20
    go_wp2_with fail
    refine HC.out.mono ?_
    rintro e w1 ⟨v1, rfl, ho1, hb1⟩
    have HO1 := Lib.hid ho1
    clear ho1
    go_wp2_with (go_at_call 42; refine (HQ.out _ hb1).mono ?_; rintro e w2 ⟨rfl, rfl⟩)
    go_ret2
    exact ⟨_, rfl, HO1.out, hb1⟩

set_option maxHeartbeats 400000 in
theorem pushed (w : World) {lo hi : Nat} {v : Value} {L : List Int} (h : Rd w lo hi v L) (hL : L.length ≤ 1048576) {f t n : Int} (hf : I64 f) (ht : I64 t) (hn : I64 n) :
    Calls Try.prog 18 #[v, .int .i64 f, .int .i64 t, .int .i64 n] w (RetBB w (pushedL L f t n) (pushB L f t n)) := by
  have HQ := Lib.hid (fun w' (hb : Below w.heap.size w w') => l1There w' (h.below hb) hL hf hn)
  have HC := Lib.hid (l1Bytes w h hL)
  unfold pushedL pushB
  by_cases hth : there L f n = true
  · rw [hth] at HQ ⊢
    by_cases htt : 0 ≤ t ∧ t ≤ f
    · obtain ⟨F, N, rfl, rfl, h1, h2⟩ := there_nat hth
      obtain ⟨T, rfl⟩ : ∃ T : Nat, t = T := ⟨t.toNat, by omega⟩
      have hd : decide ((0 : Int) ≤ (T : Int) ∧ (T : Int) ≤ (F : Int)) = true := decide_eq_true htt
      have hTF : T ≤ F := by omega
      have HI := Lib.hid (fun w' => l1In w' (x := (T : Int)) (a := 0) (b := (F : Int)))
      rw [hd] at HI ⊢
      clear hth hd htt
      rw [Bool.true_and, if_pos rfl]
      go_enter Try.func18, Try.ntmps18
      go_wp2_with fail
      refine HC.out.mono ?_
      rintro e w1 ⟨v1, rfl, ho1, hb1⟩
      have HO1 := Lib.hid ho1
      clear ho1
      go_wp2_with (first | (go_at_call 42; refine (HQ.out _ hb1).mono ?_; rintro e w2 ⟨rfl, rfl⟩) | (go_at_call 47; refine (HI.out _).mono ?_; rintro e w2 ⟨rfl, rfl⟩))
      refine (l1Push w1 (F := F) (T := T) (N := N) HO1.out (Nat.le_refl _) hL h1 hTF).mono ?_
      rintro e w4 ⟨rfl, ho4, ht4⟩
      have HO := Lib.hid ho4
      have HT := Lib.hid ht4
      clear ho4 ht4
      go_wp2
      go_ret2
      exact ⟨_, rfl, by simpa [push, wipe, piece] using HO.out.more (Nat.le_refl _) HT.out.size, below_touch hb1 HT.out (Nat.le_refl _) (Nat.le_refl _)⟩
    · have hd : decide (0 ≤ t ∧ t ≤ f) = false := decide_eq_false htt
      have HI := Lib.hid (fun w' => l1In w' (x := t) (a := 0) (b := f))
      rw [hd] at HI ⊢
      clear hth hd htt
      rw [Bool.and_false, if_neg (by simp)]
      go_enter Try.func18, Try.ntmps18
      go_wp2_with fail
      refine HC.out.mono ?_
      rintro e w1 ⟨v1, rfl, ho1, hb1⟩
      have HO1 := Lib.hid ho1
      clear ho1
      go_wp2_with (first | (go_at_call 42; refine (HQ.out _ hb1).mono ?_; rintro e w2 ⟨rfl, rfl⟩) | (go_at_call 47; refine (HI.out _).mono ?_; rintro e w2 ⟨rfl, rfl⟩))
      go_ret2
      exact ⟨_, rfl, HO1.out, hb1⟩
  · have hth' : there L f n = false := by simpa using hth
    rw [hth'] at HQ ⊢
    clear hth hth'
    rw [Bool.false_and, if_neg (by simp)]
    go_enter Try.func18, Try.ntmps18
    go_wp2_with fail
    refine HC.out.mono ?_
    rintro e w1 ⟨v1, rfl, ho1, hb1⟩
    have HO1 := Lib.hid ho1
    clear ho1
    go_wp2_with (first | (go_at_call 42; refine (HQ.out _ hb1).mono ?_; rintro e w2 ⟨rfl, rfl⟩))
    go_ret2
    exact ⟨_, rfl, HO1.out, hb1⟩
end Go.Proofs.Ytamgikcoknkghaa.FloorS

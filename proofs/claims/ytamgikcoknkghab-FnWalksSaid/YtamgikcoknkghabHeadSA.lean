/-
  The model's HeadAt (package spec). Lengths to 1048576, numbers of 64 bits.
-/
import Derived.Test.YtamgikcoknkghabHeadS
namespace Go.Proofs.Ytamgikcoknkghab.HeadS
open Go.RowKit Go.Proofs.Ytamgikcoknkghab.Mem Go.Proofs.Ytamgikcoknkghab.Pure Go.Proofs.Ytamgikcoknkghab.Help Go.Proofs.Ytamgikcoknkghab.FloorI Go.Proofs.Ytamgikcoknkghab.HeadI
set_option linter.unusedVariables false

set_option maxHeartbeats 1000000 in
theorem headAt_none (w : World) {lo hi : Nat} {v : Value} {L : List Int} (h : Rd w lo hi v L) (hL : L.length ≤ 1048576) {a : Int} (ha : I64 a) (hth : there L a 6 = false) :
    Calls Try.prog 17 #[v, .int .i64 a] w (RetHB w Hd.zero false) := by
  have HP := Lib.hid (fun w' (hb : Below w.heap.size w w') => FloorS.partOf w' (h.below hb) hL ha (show I64 6 by unfold I64; omega))
  unfold partL at HP
  rw [hth, if_neg (by simp)] at HP
  clear hth
  go_enter Try.func17, Try.ntmps17
  go_wp2_with fail
  refine (HP.out _ ((Below.refl _ _).alloc (Nat.le_refl _) _)).mono ?_
  rintro e w1 ⟨v1, rfl, ho1, hb1⟩
  have HZ := Lib.hid ((Blk.new w _ _).below hb1)
  have HB := Lib.hid hb1
  clear hb1 ho1
  obtain ⟨c0, c1, c2, c3⟩ := HZ.out.cells4
  have f0 := HZ.out.free 0
  have f1 := HZ.out.free 1
  have f2 := HZ.out.free 2
  have f3 := HZ.out.free 3
  go_wp2
  refine bodyPost_ret (v := .tuple #[.agg #[.int .i64 0, .int .i64 0, .int .i64 0, .int .i64 0], .bool false]) (by simp [results, Try.results17, go_sem, c0, c1, c2, c3]) rfl ?_
  exact ⟨rfl, below_put4 (((Below.refl _ _).alloc (Nat.le_refl _) _).trans (HB.out.mono (by simp))) (Nat.le_refl _) _ _ _ _⟩

set_option maxHeartbeats 2000000 in
theorem headAt_some (w : World) {lo hi : Nat} {v : Value} {L : List Int} (h : Rd w lo hi v L) (hL : L.length ≤ 1048576) (hy : Byt L) {a : Int} (ha : I64 a) (hth : there L a 6 = true) :
    Calls Try.prog 17 #[v, .int .i64 a] w (RetHB w (headAtH L a) (headAtB L a)) := by
  have HP := Lib.hid (fun w' (hb : Below w.heap.size w w') => FloorS.partOf w' (h.below hb) hL ha (show I64 6 by unfold I64; omega))
  have hpl := part_length hth
  have hpy : Byt (piece L a 6) := byt_part hy
  unfold headAtH headAtB
  unfold partL at HP
  rw [hth, if_pos rfl] at HP
  rw [hth, Bool.true_and]
  obtain ⟨p, hp⟩ : ∃ p, p = piece L a 6 := ⟨_, rfl⟩
  rw [← hp] at HP hpl hpy ⊢
  have hpl6 : p.length = 6 := by rw [hpl]; rfl
  clear hp hth hpl
  match p, hpl6 with
  | [x0, x1, x2, x3, x4, x5], _ =>
    have y0 := hpy x0 (by simp)
    have y1 := hpy x1 (by simp)
    have y2 := hpy x2 (by simp)
    have y3 := hpy x3 (by simp)
    have y4 := hpy x4 (by simp)
    have y5 := hpy x5 (by simp)
    obtain ⟨y00, y01⟩ := y0
    obtain ⟨y10, y11⟩ := y1
    obtain ⟨y20, y21⟩ := y2
    obtain ⟨y30, y31⟩ := y3
    obtain ⟨y40, y41⟩ := y4
    obtain ⟨y50, y51⟩ := y5
    simp only [dec, List.getD_cons_zero, List.getD_cons_succ]
    have hds : I64 (x0 + 256 * x1) := by unfold I64; omega
    have HQ := Lib.hid (fun w' (hb : Below w.heap.size w w') => FloorS.l1There w' (h.below hb) hL ha hds)
    have HK := Lib.hid (fun w' : World => headOk w' (s := x0 + 256 * x1) (o := x2 - 1) (l := x3) (r := x4))
    obtain ⟨X, hX⟩ : ∃ X, X = headB (x0 + 256 * x1) (x2 - 1) x3 x4 := ⟨_, rfl⟩
    obtain ⟨Y, hY⟩ : ∃ Y, Y = there L a (x0 + 256 * x1) := ⟨_, rfl⟩
    rw [← hX] at HK ⊢
    rw [← hY] at HQ ⊢
    clear hX hY hpy hds
    by_cases h5 : x5 = 0
    · subst h5
      rw [decide_eq_true rfl, Bool.true_and]
      cases X
      · go_enter Try.func17, Try.ntmps17
        go_wp2_with fail
        refine (HP.out _ ((Below.refl _ _).alloc (Nat.le_refl _) _)).mono ?_
        rintro e w1 ⟨v1, rfl, ho1, hb1⟩
        obtain ⟨pb, po, pc, rfl, _, _, _, _, hbl, hk⟩ := ho1.rd.head (by simp)
        have k0 := hk 0 (by simp)
        have k1 := hk 1 (by simp)
        have k2 := hk 2 (by simp)
        have k3 := hk 3 (by simp)
        have k4 := hk 4 (by simp)
        have k5 := hk 5 (by simp)
        simp only [List.getD_cons_zero, List.getD_cons_succ, Nat.add_zero] at k0 k1 k2 k3 k4 k5
        rw [show ([x0, x1, x2, x3, x4, 0] : List Int).length = 6 from rfl]
        have hne : ¬ pb = w1.heap.size := by omega
        have HZ1 := Lib.hid ((Blk.new w _ _).below hb1)
        have HB1 : Hid (Below w.heap.size w w1) := Lib.hid (((Below.refl _ _).alloc (Nat.le_refl _) _).trans (hb1.mono (by simp)))
        clear hb1 ho1 hk
        go_wp2_with fail
        go_region
        go_wp2_with fail
        refine (HK.out _).mono ?_
        rintro e w3 ⟨rfl, hb3⟩
        have hb2 : Below w1.heap.size w1 (w1.alloc (.cells #[.int .i64 (x0 + 256 * x1), .int .i64 (x2 - 1), .int .i64 x3, .int .i64 x4] 25)).drew := drawn ((Below.refl _ _).alloc (Nat.le_refl _) _)
        have HY3 : Hid (Blk w3 w1.heap.size #[.int .i64 (x0 + 256 * x1), .int .i64 (x2 - 1), .int .i64 x3, .int .i64 x4] 25) := Lib.hid ((Blk.below (w := (w1.alloc (.cells #[.int .i64 (x0 + 256 * x1), .int .i64 (x2 - 1), .int .i64 x3, .int .i64 x4] 25)).drew) (Blk.new w1 _ _) hb3))
        have HZ3 : Hid (Blk w3 w.heap.size #[.int .i64 0, .int .i64 0, .int .i64 0, .int .i64 0] 25) := Lib.hid ((HZ1.out.below hb2).below hb3)
        have HB3 : Hid (Below w.heap.size w w3) := Lib.hid (below_then (below_then HB1.out hb2 (Nat.le_refl _)) hb3 (Nat.le_refl _))
        clear hb2 hb3
        obtain ⟨c0, c1, c2, c3⟩ := HZ3.out.cells4
        have f0 := HZ3.out.free 0
        have f1 := HZ3.out.free 1
        have f2 := HZ3.out.free 2
        have f3 := HZ3.out.free 3
        go_wp2
        refine bodyPost_ret (v := .tuple #[.agg #[.int .i64 0, .int .i64 0, .int .i64 0, .int .i64 0], .bool false]) (by simp [results, Try.results17, go_sem, c0, c1, c2, c3]) rfl ?_
        exact ⟨rfl, below_put4 HB3.out (Nat.le_refl _) _ _ _ _⟩
      · cases Y
        · go_enter Try.func17, Try.ntmps17
          go_wp2_with fail
          refine (HP.out _ ((Below.refl _ _).alloc (Nat.le_refl _) _)).mono ?_
          rintro e w1 ⟨v1, rfl, ho1, hb1⟩
          obtain ⟨pb, po, pc, rfl, _, _, _, _, hbl, hk⟩ := ho1.rd.head (by simp)
          have k0 := hk 0 (by simp)
          have k1 := hk 1 (by simp)
          have k2 := hk 2 (by simp)
          have k3 := hk 3 (by simp)
          have k4 := hk 4 (by simp)
          have k5 := hk 5 (by simp)
          simp only [List.getD_cons_zero, List.getD_cons_succ, Nat.add_zero] at k0 k1 k2 k3 k4 k5
          rw [show ([x0, x1, x2, x3, x4, 0] : List Int).length = 6 from rfl]
          have hne : ¬ pb = w1.heap.size := by omega
          have HZ1 := Lib.hid ((Blk.new w _ _).below hb1)
          have HB1 : Hid (Below w.heap.size w w1) := Lib.hid (((Below.refl _ _).alloc (Nat.le_refl _) _).trans (hb1.mono (by simp)))
          clear hb1 ho1 hk
          go_wp2_with fail
          go_region
          go_wp2_with fail
          refine (HK.out _).mono ?_
          rintro e w3 ⟨rfl, hb3⟩
          have hb2 : Below w1.heap.size w1 (w1.alloc (.cells #[.int .i64 (x0 + 256 * x1), .int .i64 (x2 - 1), .int .i64 x3, .int .i64 x4] 25)).drew := drawn ((Below.refl _ _).alloc (Nat.le_refl _) _)
          have HY3 : Hid (Blk w3 w1.heap.size #[.int .i64 (x0 + 256 * x1), .int .i64 (x2 - 1), .int .i64 x3, .int .i64 x4] 25) := Lib.hid ((Blk.below (w := (w1.alloc (.cells #[.int .i64 (x0 + 256 * x1), .int .i64 (x2 - 1), .int .i64 x3, .int .i64 x4] 25)).drew) (Blk.new w1 _ _) hb3))
          have HZ3 : Hid (Blk w3 w.heap.size #[.int .i64 0, .int .i64 0, .int .i64 0, .int .i64 0] 25) := Lib.hid ((HZ1.out.below hb2).below hb3)
          have HB3 : Hid (Below w.heap.size w w3) := Lib.hid (below_then (below_then HB1.out hb2 (Nat.le_refl _)) hb3 (Nat.le_refl _))
          clear hb2 hb3
          obtain ⟨d0, d1, d2, d3⟩ := HY3.out.cells4
          go_wp2_with fail
          refine (HQ.out w3 HB3.out).mono ?_
          rintro e w4 ⟨rfl, rfl⟩
          obtain ⟨c0, c1, c2, c3⟩ := HZ3.out.cells4
          have f0 := HZ3.out.free 0
          have f1 := HZ3.out.free 1
          have f2 := HZ3.out.free 2
          have f3 := HZ3.out.free 3
          go_wp2
          refine bodyPost_ret (v := .tuple #[.agg #[.int .i64 0, .int .i64 0, .int .i64 0, .int .i64 0], .bool false]) (by simp [results, Try.results17, go_sem, c0, c1, c2, c3]) rfl ?_
          exact ⟨rfl, below_put4 HB3.out (Nat.le_refl _) _ _ _ _⟩
        · go_enter Try.func17, Try.ntmps17
          go_wp2_with fail
          refine (HP.out _ ((Below.refl _ _).alloc (Nat.le_refl _) _)).mono ?_
          rintro e w1 ⟨v1, rfl, ho1, hb1⟩
          obtain ⟨pb, po, pc, rfl, _, _, _, _, hbl, hk⟩ := ho1.rd.head (by simp)
          have k0 := hk 0 (by simp)
          have k1 := hk 1 (by simp)
          have k2 := hk 2 (by simp)
          have k3 := hk 3 (by simp)
          have k4 := hk 4 (by simp)
          have k5 := hk 5 (by simp)
          simp only [List.getD_cons_zero, List.getD_cons_succ, Nat.add_zero] at k0 k1 k2 k3 k4 k5
          rw [show ([x0, x1, x2, x3, x4, 0] : List Int).length = 6 from rfl]
          have hne : ¬ pb = w1.heap.size := by omega
          have HZ1 := Lib.hid ((Blk.new w _ _).below hb1)
          have HB1 : Hid (Below w.heap.size w w1) := Lib.hid (((Below.refl _ _).alloc (Nat.le_refl _) _).trans (hb1.mono (by simp)))
          clear hb1 ho1 hk
          go_wp2_with fail
          go_region
          go_wp2_with fail
          refine (HK.out _).mono ?_
          rintro e w3 ⟨rfl, hb3⟩
          have hb2 : Below w1.heap.size w1 (w1.alloc (.cells #[.int .i64 (x0 + 256 * x1), .int .i64 (x2 - 1), .int .i64 x3, .int .i64 x4] 25)).drew := drawn ((Below.refl _ _).alloc (Nat.le_refl _) _)
          have HY3 : Hid (Blk w3 w1.heap.size #[.int .i64 (x0 + 256 * x1), .int .i64 (x2 - 1), .int .i64 x3, .int .i64 x4] 25) := Lib.hid ((Blk.below (w := (w1.alloc (.cells #[.int .i64 (x0 + 256 * x1), .int .i64 (x2 - 1), .int .i64 x3, .int .i64 x4] 25)).drew) (Blk.new w1 _ _) hb3))
          have HZ3 : Hid (Blk w3 w.heap.size #[.int .i64 0, .int .i64 0, .int .i64 0, .int .i64 0] 25) := Lib.hid ((HZ1.out.below hb2).below hb3)
          have HB3 : Hid (Below w.heap.size w w3) := Lib.hid (below_then (below_then HB1.out hb2 (Nat.le_refl _)) hb3 (Nat.le_refl _))
          clear hb2 hb3
          obtain ⟨d0, d1, d2, d3⟩ := HY3.out.cells4
          go_wp2_with fail
          refine (HQ.out w3 HB3.out).mono ?_
          rintro e w4 ⟨rfl, rfl⟩
          obtain ⟨c0, c1, c2, c3⟩ := HZ3.out.cells4
          have f0 := HZ3.out.free 0
          have f1 := HZ3.out.free 1
          have f2 := HZ3.out.free 2
          have f3 := HZ3.out.free 3
          go_wp2
          refine bodyPost_ret (v := .tuple #[.agg #[.int .i64 (x0 + 256 * x1), .int .i64 (x2 - 1), .int .i64 x3, .int .i64 x4], .bool true]) (by simp [results, Try.results17, go_sem, c0, c1, c2, c3]) rfl ?_
          exact ⟨rfl, below_put4 HB3.out (Nat.le_refl _) _ _ _ _⟩
    · rw [decide_eq_false h5, Bool.false_and]
      have h5' : (x5 != 0) = true := by simpa using h5
      clear h5
      go_enter Try.func17, Try.ntmps17
      go_wp2_with fail
      refine (HP.out _ ((Below.refl _ _).alloc (Nat.le_refl _) _)).mono ?_
      rintro e w1 ⟨v1, rfl, ho1, hb1⟩
      obtain ⟨pb, po, pc, rfl, _, _, _, _, hbl, hk⟩ := ho1.rd.head (by simp)
      have k0 := hk 0 (by simp)
      have k1 := hk 1 (by simp)
      have k2 := hk 2 (by simp)
      have k3 := hk 3 (by simp)
      have k4 := hk 4 (by simp)
      have k5 := hk 5 (by simp)
      simp only [List.getD_cons_zero, List.getD_cons_succ, Nat.add_zero] at k0 k1 k2 k3 k4 k5
      rw [show ([x0, x1, x2, x3, x4, x5] : List Int).length = 6 from rfl]
      have hne : ¬ pb = w1.heap.size := by omega
      have HZ1 := Lib.hid ((Blk.new w _ _).below hb1)
      have HB1 : Hid (Below w.heap.size w w1) := Lib.hid (((Below.refl _ _).alloc (Nat.le_refl _) _).trans (hb1.mono (by simp)))
      clear hb1 ho1 hk
      obtain ⟨c0, c1, c2, c3⟩ := HZ1.out.cells4
      have f0 := HZ1.out.free 0
      have f1 := HZ1.out.free 1
      have f2 := HZ1.out.free 2
      have f3 := HZ1.out.free 3
      go_wp2
      refine bodyPost_ret (v := .tuple #[.agg #[.int .i64 0, .int .i64 0, .int .i64 0, .int .i64 0], .bool false]) (by simp [results, Try.results17, go_sem, c0, c1, c2, c3]) rfl ?_
      exact ⟨rfl, below_put4 HB1.out (Nat.le_refl _) _ _ _ _⟩

theorem headAt (w : World) {lo hi : Nat} {v : Value} {L : List Int} (h : Rd w lo hi v L) (hL : L.length ≤ 1048576) (hy : Byt L) {a : Int} (ha : I64 a) :
    Calls Try.prog 17 #[v, .int .i64 a] w (RetHB w (headAtH L a) (headAtB L a)) := by
  by_cases hth : there L a 6 = true
  · exact headAt_some w h hL hy ha hth
  · have hth' : there L a 6 = false := by simpa using hth
    have e : headAtB L a = false := by unfold headAtB; rw [hth', Bool.false_and]
    unfold headAtH
    rw [e]
    exact headAt_none w h hL ha hth'
end Go.Proofs.Ytamgikcoknkghab.HeadS

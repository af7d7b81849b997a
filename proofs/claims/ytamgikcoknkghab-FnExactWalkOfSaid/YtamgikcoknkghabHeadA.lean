/-
  The program's HeadAt: the head that is read at a place. Lengths to 1048576, numbers of 64 bits.
-/
import Derived.Test.YtamgikcoknkghabHeadI
namespace Go.Proofs.Ytamgikcoknkghab.HeadI
open Go.RowKit Go.Proofs.Ytamgikcoknkghab.Mem Go.Proofs.Ytamgikcoknkghab.Pure Go.Proofs.Ytamgikcoknkghab.Help Go.Proofs.Ytamgikcoknkghab.FloorI
set_option linter.unusedVariables false

theorem new_free {w w1 : World} {cs : Array Value} {t : TypeId} (hb : Below (w.alloc (.cells cs t)).heap.size (w.alloc (.cells cs t)) w1) (k : Nat) : w1.frozen? ⟨w.heap.size, k, none⟩ = false := by
  rw [hb.frozen (p := ⟨w.heap.size, k, none⟩) (by show w.heap.size < _; simp)]
  unfold World.frozen?
  rw [heap_alloc_new]
  simp

/-- Behind a store of four cells into a block of the call's own. -/
def put4 (w : World) (g : Nat) (a b c d : Value) : World := (((w.setCell ⟨g, 0, none⟩ a).setCell ⟨g, 1, none⟩ b).setCell ⟨g, 2, none⟩ c).setCell ⟨g, 3, none⟩ d
theorem below_put4 {B g : Nat} {w0 w : World} (h : Below B w0 w) (hg : B ≤ g) (a b c d : Value) : Below B w0 (put4 w g a b c d) :=
  ((((h.setCell (p := ⟨g, 0, none⟩) hg a).setCell (p := ⟨g, 1, none⟩) hg b).setCell (p := ⟨g, 2, none⟩) hg c).setCell (p := ⟨g, 3, none⟩) hg d)

set_option maxHeartbeats 1000000 in
theorem headAt_none (w : World) {lo hi : Nat} {v : Value} {L : List Int} (h : Rd w lo hi v L) (hL : L.length ≤ 1048576) {a : Int} (ha : I64 a) (hth : there L a 6 = false) :
    Calls Try.prog 19 #[v, .int .i64 a] w (RetHB w Hd.zero false) := by
  have HP := Lib.hid (fun w' (hb : Below w.heap.size w w') => partOf w' (h.below hb) hL ha (show I64 6 by unfold I64; omega))
  unfold partL at HP
  rw [hth, if_neg (by simp)] at HP
  clear hth
  go_enter Try.func19, Try.ntmps19
  go_wp2_with fail
  refine (HP.out _ ((Below.refl _ _).alloc (Nat.le_refl _) _)).mono ?_
  rintro e w1 ⟨v1, rfl, ho1, hb1⟩
  have c0 := new_kept hb1 0
  have c1 := new_kept hb1 1
  have c2 := new_kept hb1 2
  have c3 := new_kept hb1 3
  have f0 := new_free hb1 0
  have f1 := new_free hb1 1
  have f2 := new_free hb1 2
  have f3 := new_free hb1 3
  simp at c0 c1 c2 c3
  have HB := Lib.hid hb1
  clear hb1 ho1
  go_wp2
  refine bodyPost_ret (v := .tuple #[.agg #[.int .i64 0, .int .i64 0, .int .i64 0, .int .i64 0], .bool false]) (by simp [results, Try.results19, go_sem, c0, c1, c2, c3]) rfl ?_
  exact ⟨rfl, below_put4 (((Below.refl _ _).alloc (Nat.le_refl _) _).trans (HB.out.mono (by simp))) (Nat.le_refl _) _ _ _ _⟩

set_option maxHeartbeats 1000000 in
theorem headAt_some (w : World) {lo hi : Nat} {v : Value} {L : List Int} (h : Rd w lo hi v L) (hL : L.length ≤ 1048576) (hy : Byt L) {a : Int} (ha : I64 a) (hth : there L a 6 = true) :
    Calls Try.prog 19 #[v, .int .i64 a] w (RetHB w (headAtH L a) (headAtB L a)) := by
  have HP := Lib.hid (fun w' (hb : Below w.heap.size w w') => partOf w' (h.below hb) hL ha (show I64 6 by unfold I64; omega))
  have hpl := part_length hth
  have hpy : Byt (piece L a 6) := byt_part hy
  have hwr := written_iff (p := piece L a 6) (by rw [hpl]; rfl) hpy
  unfold headAtH headAtB
  unfold partL at HP
  rw [hth, if_pos rfl] at HP
  rw [hth, Bool.true_and, ← Bool.and_assoc, ← hwr]
  obtain ⟨p, hp⟩ : ∃ p, p = piece L a 6 := ⟨_, rfl⟩
  rw [← hp] at HP hpl hpy ⊢
  clear hp hth hwr
  have hds : I64 (dec p).s := by
    unfold I64 dec
    have e := six (p := p) (by rw [hpl]; rfl)
    have b0 := hpy (p.getD 0 0) (by rw [e]; simp)
    have b1 := hpy (p.getD 1 0) (by rw [e]; simp)
    show _ ≤ p.getD 0 0 + 256 * p.getD 1 0 ∧ p.getD 0 0 + 256 * p.getD 1 0 ≤ _
    omega
  have HIN := Lib.hid (fun (w' : World) (l h : Nat) (v' : Value) (hr : Rd w' l h v' p) => headIn w' hr (by rw [hpl]; rfl) hpy)
  have HW := Lib.hid (fun (w' : World) (l h : Nat) (v' : Value) (hr : Rd w' l h v' p) (hh : h ≤ w'.heap.size) (s o l r : Int) => isWrittenAs w' hr hh hpy (s := s) (o := o) (l := l) (r := r))
  have HQ := Lib.hid (fun w' (hb : Below w.heap.size w w') => allThere w' (h.below hb) hL ha hds)
  obtain ⟨D, hD⟩ : ∃ D, D = dec p := ⟨_, rfl⟩
  rw [← hD] at HIN HQ ⊢
  clear hD hds hpl hpy
  obtain ⟨s, o, l, r⟩ := D
  simp only at HQ ⊢
  obtain ⟨X, hX⟩ : ∃ X, X = decide (p = headL s o l r) := ⟨_, rfl⟩
  obtain ⟨Y, hY⟩ : ∃ Y, Y = there L a s := ⟨_, rfl⟩
  rw [← hY] at HQ
  rw [← hX, ← hY]
  have HX := Lib.hid hX
  clear hX hY
  cases X
  · go_enter Try.func19, Try.ntmps19
    go_wp2_with fail
    refine (HP.out _ ((Below.refl _ _).alloc (Nat.le_refl _) _)).mono ?_
    rintro e w1 ⟨v1, rfl, ho1, hb1⟩
    have HO1 := Lib.hid ho1
    have HB1 := Lib.hid hb1
    clear hb1 ho1
    go_wp2_with fail
    refine (HIN.out w1 _ _ _ HO1.out.rd).mono ?_
    rintro e w2 ⟨rfl, hb2⟩
    have HB2 := Lib.hid hb2
    clear hb2
    go_wp2_with fail
    refine (HW.out (w2.alloc (.cells #[.int .i64 s, .int .i64 o, .int .i64 l, .int .i64 r] 25)) _ _ _ ((HO1.out.below HB2.out).below ((Below.refl _ _).alloc (Nat.le_refl _) _)).rd (Nat.le_trans HB2.out.size (by simp)) s o l r).mono ?_
    rw [← HX.out]
    rintro e w3 ⟨rfl, hb3⟩
    have HB3 := Lib.hid hb3
    clear hb3
    have HZ : Hid (Blk w3 w.heap.size #[.int .i64 0, .int .i64 0, .int .i64 0, .int .i64 0] 25) := Lib.hid ((((Blk.new w _ _).below HB1.out).below HB2.out).more _ |>.below HB3.out)
    have HY : Hid (Blk w3 w2.heap.size #[.int .i64 s, .int .i64 o, .int .i64 l, .int .i64 r] 25) := Lib.hid ((Blk.new w2 _ _).below HB3.out)
    have HBW : Hid (Below w.heap.size w w3) := Lib.hid (((((Below.refl _ _).alloc (Nat.le_refl _) _).trans (HB1.out.mono (by simp))).trans (HB2.out.mono (Nat.le_trans (by simp) HB1.out.size))).alloc (Nat.le_trans (Nat.le_trans (by simp) HB1.out.size) HB2.out.size) _ |>.trans (HB3.out.mono (Nat.le_trans (Nat.le_trans (Nat.le_trans (by simp) HB1.out.size) HB2.out.size) (by simp))))
    obtain ⟨c0, c1, c2, c3⟩ := HZ.out.cells4
    have f0 := HZ.out.free 0
    have f1 := HZ.out.free 1
    have f2 := HZ.out.free 2
    have f3 := HZ.out.free 3
    go_wp2
    refine bodyPost_ret (v := .tuple #[.agg #[.int .i64 0, .int .i64 0, .int .i64 0, .int .i64 0], .bool false]) (by simp [results, Try.results19, go_sem, c0, c1, c2, c3]) rfl ?_
    exact ⟨rfl, below_put4 HBW.out (Nat.le_refl _) _ _ _ _⟩
  · cases Y
    · go_enter Try.func19, Try.ntmps19
      go_wp2_with fail
      refine (HP.out _ ((Below.refl _ _).alloc (Nat.le_refl _) _)).mono ?_
      rintro e w1 ⟨v1, rfl, ho1, hb1⟩
      have HO1 := Lib.hid ho1
      have HB1 := Lib.hid hb1
      clear hb1 ho1
      go_wp2_with fail
      refine (HIN.out w1 _ _ _ HO1.out.rd).mono ?_
      rintro e w2 ⟨rfl, hb2⟩
      have HB2 := Lib.hid hb2
      clear hb2
      go_wp2_with fail
      refine (HW.out (w2.alloc (.cells #[.int .i64 s, .int .i64 o, .int .i64 l, .int .i64 r] 25)) _ _ _ ((HO1.out.below HB2.out).below ((Below.refl _ _).alloc (Nat.le_refl _) _)).rd (Nat.le_trans HB2.out.size (by simp)) s o l r).mono ?_
      rw [← HX.out]
      rintro e w3 ⟨rfl, hb3⟩
      have HB3 := Lib.hid hb3
      clear hb3
      have HZ : Hid (Blk w3 w.heap.size #[.int .i64 0, .int .i64 0, .int .i64 0, .int .i64 0] 25) := Lib.hid ((((Blk.new w _ _).below HB1.out).below HB2.out).more _ |>.below HB3.out)
      have HY : Hid (Blk w3 w2.heap.size #[.int .i64 s, .int .i64 o, .int .i64 l, .int .i64 r] 25) := Lib.hid ((Blk.new w2 _ _).below HB3.out)
      have HBW : Hid (Below w.heap.size w w3) := Lib.hid (((((Below.refl _ _).alloc (Nat.le_refl _) _).trans (HB1.out.mono (by simp))).trans (HB2.out.mono (Nat.le_trans (by simp) HB1.out.size))).alloc (Nat.le_trans (Nat.le_trans (by simp) HB1.out.size) HB2.out.size) _ |>.trans (HB3.out.mono (Nat.le_trans (Nat.le_trans (Nat.le_trans (by simp) HB1.out.size) HB2.out.size) (by simp))))
      obtain ⟨d0, d1, d2, d3⟩ := HY.out.cells4
      go_wp2_with fail
      refine (HQ.out w3 HBW.out).mono ?_
      rintro e w4 ⟨rfl, hb4⟩
      have HB4 := Lib.hid hb4
      clear hb4 d0 d1 d2 d3
      have HZ4 := Lib.hid (HZ.out.below HB4.out)
      have HY4 := Lib.hid (HY.out.below HB4.out)
      obtain ⟨d0, d1, d2, d3⟩ := HY4.out.cells4
      obtain ⟨c0, c1, c2, c3⟩ := HZ4.out.cells4
      have f0 := HZ4.out.free 0
      have f1 := HZ4.out.free 1
      have f2 := HZ4.out.free 2
      have f3 := HZ4.out.free 3
      go_wp2
      refine bodyPost_ret (v := .tuple #[.agg #[.int .i64 0, .int .i64 0, .int .i64 0, .int .i64 0], .bool false]) (by simp [results, Try.results19, go_sem, c0, c1, c2, c3]) rfl ?_
      exact ⟨rfl, below_put4 (below_then HBW.out HB4.out (Nat.le_refl _)) (Nat.le_refl _) _ _ _ _⟩
    · go_enter Try.func19, Try.ntmps19
      go_wp2_with fail
      refine (HP.out _ ((Below.refl _ _).alloc (Nat.le_refl _) _)).mono ?_
      rintro e w1 ⟨v1, rfl, ho1, hb1⟩
      have HO1 := Lib.hid ho1
      have HB1 := Lib.hid hb1
      clear hb1 ho1
      go_wp2_with fail
      refine (HIN.out w1 _ _ _ HO1.out.rd).mono ?_
      rintro e w2 ⟨rfl, hb2⟩
      have HB2 := Lib.hid hb2
      clear hb2
      go_wp2_with fail
      refine (HW.out (w2.alloc (.cells #[.int .i64 s, .int .i64 o, .int .i64 l, .int .i64 r] 25)) _ _ _ ((HO1.out.below HB2.out).below ((Below.refl _ _).alloc (Nat.le_refl _) _)).rd (Nat.le_trans HB2.out.size (by simp)) s o l r).mono ?_
      rw [← HX.out]
      rintro e w3 ⟨rfl, hb3⟩
      have HB3 := Lib.hid hb3
      clear hb3
      have HZ : Hid (Blk w3 w.heap.size #[.int .i64 0, .int .i64 0, .int .i64 0, .int .i64 0] 25) := Lib.hid ((((Blk.new w _ _).below HB1.out).below HB2.out).more _ |>.below HB3.out)
      have HY : Hid (Blk w3 w2.heap.size #[.int .i64 s, .int .i64 o, .int .i64 l, .int .i64 r] 25) := Lib.hid ((Blk.new w2 _ _).below HB3.out)
      have HBW : Hid (Below w.heap.size w w3) := Lib.hid (((((Below.refl _ _).alloc (Nat.le_refl _) _).trans (HB1.out.mono (by simp))).trans (HB2.out.mono (Nat.le_trans (by simp) HB1.out.size))).alloc (Nat.le_trans (Nat.le_trans (by simp) HB1.out.size) HB2.out.size) _ |>.trans (HB3.out.mono (Nat.le_trans (Nat.le_trans (Nat.le_trans (by simp) HB1.out.size) HB2.out.size) (by simp))))
      obtain ⟨d0, d1, d2, d3⟩ := HY.out.cells4
      go_wp2_with fail
      refine (HQ.out w3 HBW.out).mono ?_
      rintro e w4 ⟨rfl, hb4⟩
      have HB4 := Lib.hid hb4
      clear hb4 d0 d1 d2 d3
      have HZ4 := Lib.hid (HZ.out.below HB4.out)
      have HY4 := Lib.hid (HY.out.below HB4.out)
      obtain ⟨d0, d1, d2, d3⟩ := HY4.out.cells4
      obtain ⟨c0, c1, c2, c3⟩ := HZ4.out.cells4
      have f0 := HZ4.out.free 0
      have f1 := HZ4.out.free 1
      have f2 := HZ4.out.free 2
      have f3 := HZ4.out.free 3
      go_wp2
      refine bodyPost_ret (v := .tuple #[.agg #[.int .i64 s, .int .i64 o, .int .i64 l, .int .i64 r], .bool true]) (by simp [results, Try.results19, go_sem, c0, c1, c2, c3]) rfl ?_
      exact ⟨rfl, below_put4 (below_then HBW.out HB4.out (Nat.le_refl _)) (Nat.le_refl _) _ _ _ _⟩

theorem headAt (w : World) {lo hi : Nat} {v : Value} {L : List Int} (h : Rd w lo hi v L) (hL : L.length ≤ 1048576) (hy : Byt L) {a : Int} (ha : I64 a) :
    Calls Try.prog 19 #[v, .int .i64 a] w (RetHB w (headAtH L a) (headAtB L a)) := by
  by_cases hth : there L a 6 = true
  · exact headAt_some w h hL hy ha hth
  · have hth' : there L a 6 = false := by simpa using hth
    have e : headAtB L a = false := by unfold headAtB; rw [hth', Bool.false_and]
    unfold headAtH
    rw [e]
    exact headAt_none w h hL ha hth'
end Go.Proofs.Ytamgikcoknkghab.HeadI

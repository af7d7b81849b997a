/-
  The model's chapter 2 (package spec), and the laws' own helpers on heads: what each hands back, in the words of Pure2. Lengths to 1048576, numbers of 64 bits.
-/
import Derived.Test.YtamgikcoknkghabFloorS
import Derived.Test.YtamgikcoknkghabHeadA
namespace Go.Proofs.Ytamgikcoknkghab.HeadS
open Go.RowKit Go.Proofs.Ytamgikcoknkghab.Mem Go.Proofs.Ytamgikcoknkghab.Pure Go.Proofs.Ytamgikcoknkghab.Help Go.Proofs.Ytamgikcoknkghab.FloorI Go.Proofs.Ytamgikcoknkghab.HeadI
set_option linter.unusedVariables false

set_option maxHeartbeats 1000000 in
theorem headOk (w : World) {s o l r : Int} :
    Calls Try.prog 9 #[.agg #[.int .i64 s, .int .i64 o, .int .i64 l, .int .i64 r]] w (RetV w (.bool (headB s o l r))) := by
  by_cases hb : headB s o l r = true
  · have h1 := headB_iff.1 hb
    obtain ⟨⟨h11, h12, h13, h14⟩, h15, h16, h17, h18⟩ := h1
    rw [hb]
    clear hb
    have g1 : 0 ≤ r ∧ r ≤ 6 := ⟨h11, h12⟩
    have g2 : 6 + r ≤ s ∧ s ≤ 1000 := ⟨h13, h14⟩
    have g3 : -1 ≤ o ∧ o ≤ 3 := ⟨h15, h16⟩
    have g4 : 0 ≤ l ∧ l ≤ 15 := ⟨h17, h18⟩
    go_enter Try.func9, Try.ntmps9
    go_wp2_with (go_at_call 32; refine (FloorS.l1In _).mono ?_; rintro e w1 ⟨rfl, rfl⟩)
    go_ret
    exact ⟨by first | rfl | simp, (Below.refl _ _).alloc (Nat.le_refl _) _⟩
  · have h1 : ¬ ((0 ≤ r ∧ r ≤ 6 ∧ 6 + r ≤ s ∧ s ≤ 1000) ∧ -1 ≤ o ∧ o ≤ 3 ∧ 0 ≤ l ∧ l ≤ 15) := fun h => hb (headB_iff.2 h)
    have hb' : headB s o l r = false := by simpa using hb
    rw [hb']
    clear hb hb'
    by_cases g1 : 0 ≤ r ∧ r ≤ 6
    · by_cases g2 : 6 + r ≤ s ∧ s ≤ 1000
      · by_cases g3 : -1 ≤ o ∧ o ≤ 3
        · have g4 : ¬ (0 ≤ l ∧ l ≤ 15) := fun h => h1 ⟨⟨g1.1, g1.2, g2⟩, g3.1, g3.2, h⟩
          clear h1
          go_enter Try.func9, Try.ntmps9
          go_wp2_with (go_at_call 32; refine (FloorS.l1In _).mono ?_; rintro e w1 ⟨rfl, rfl⟩)
          go_ret
          exact ⟨by first | rfl | simp, (Below.refl _ _).alloc (Nat.le_refl _) _⟩
        · clear h1
          go_enter Try.func9, Try.ntmps9
          go_wp2_with (go_at_call 32; refine (FloorS.l1In _).mono ?_; rintro e w1 ⟨rfl, rfl⟩)
          go_ret
          exact ⟨by first | rfl | simp, (Below.refl _ _).alloc (Nat.le_refl _) _⟩
      · clear h1
        go_enter Try.func9, Try.ntmps9
        go_wp2_with (go_at_call 32; refine (FloorS.l1In _).mono ?_; rintro e w1 ⟨rfl, rfl⟩)
        go_ret
        exact ⟨by first | rfl | simp, (Below.refl _ _).alloc (Nat.le_refl _) _⟩
    · clear h1
      go_enter Try.func9, Try.ntmps9
      go_wp2_with (go_at_call 32; refine (FloorS.l1In _).mono ?_; rintro e w1 ⟨rfl, rfl⟩)
      go_ret
      exact ⟨by first | rfl | simp, (Below.refl _ _).alloc (Nat.le_refl _) _⟩

set_option maxHeartbeats 400000 in
theorem l2Bytes (w : World) {s o l r : Int} (hb : headB s o l r = true) :
    Calls Try.prog 35 #[.agg #[.int .i64 s, .int .i64 o, .int .i64 l, .int .i64 r]] w (RetB w (headW s o l r)) := by
  have h1 := headB_iff.1 hb
  obtain ⟨⟨h11, h12, h13, h14⟩, h15, h16, h17, h18⟩ := h1
  clear hb
  go_enter Try.func35, Try.ntmps35
  go_wp2
  go_ret
  have hb2 : Below w.heap.size w (w.alloc (.cells #[.int .i64 s, .int .i64 o, .int .i64 l, .int .i64 r] 25)) := (Below.refl _ _).alloc (Nat.le_refl _) _
  exact ⟨_, rfl, own_lit_at _ _ _ (by simp) hb2.size (headW s o l r) (by unfold headW maxLen; simp), hb2.alloc hb2.size _⟩

set_option maxHeartbeats 400000 in
theorem headBytes (w : World) {s o l r : Int} :
    Calls Try.prog 12 #[.agg #[.int .i64 s, .int .i64 o, .int .i64 l, .int .i64 r]] w (RetB w (headL s o l r)) := by
  have HS := Lib.hid (fun w' : World => headOk w' (s := s) (o := o) (l := l) (r := r))
  unfold headL
  by_cases hb : headB s o l r = true
  · have HC := Lib.hid (fun w' : World => l2Bytes w' hb)
    rw [if_pos hb]
    rw [hb] at HS
    clear hb
    go_enter Try.func12, Try.ntmps12
    go_wp2_with fail
    refine (HS.out _).mono ?_
    rintro e w1 ⟨rfl, hb1⟩
    have HB : Hid (Below w.heap.size w w1) := Lib.hid (((Below.refl _ _).alloc (Nat.le_refl _) _).trans (hb1.mono (by simp)))
    obtain ⟨c0, c1, c2, c3⟩ := ((Blk.new w _ _).below hb1).cells4
    clear hb1
    go_wp2_with fail
    refine (HC.out _).mono ?_
    rintro e w2 ⟨v2, rfl, ho2, hb2⟩
    have HO := Lib.hid ho2
    have HB2 := Lib.hid hb2
    clear ho2 hb2
    go_wp2
    go_ret
    exact ⟨_, rfl, HO.out.more HB.out.size (Nat.le_refl _), below_then HB.out HB2.out (Nat.le_refl _)⟩
  · have hb' : headB s o l r = false := by simpa using hb
    rw [if_neg hb]
    rw [hb'] at HS
    clear hb hb'
    go_enter Try.func12, Try.ntmps12
    go_wp2_with fail
    refine (HS.out _).mono ?_
    rintro e w1 ⟨rfl, hb1⟩
    have HB : Hid (Below w.heap.size w w1) := Lib.hid (((Below.refl _ _).alloc (Nat.le_refl _) _).trans (hb1.mono (by simp)))
    clear hb1
    go_wp2
    go_ret
    exact ⟨_, rfl, own_made w1 _ HB.out.size, HB.out.alloc HB.out.size _⟩

set_option maxHeartbeats 400000 in
theorem toHead (w : World) {s o l r : Int} :
    Calls Try.prog 10 #[.agg #[.int .i64 s, .int .i64 o, .int .i64 l, .int .i64 r]] w (RetH w ⟨s, o, l, r⟩) := by
  go_enter Try.func10, Try.ntmps10
  go_wp2
  refine bodyPost_ret (v := .agg #[.int .i64 s, .int .i64 o, .int .i64 l, .int .i64 r]) (by simp [results, Try.results10, go_sem]) rfl ?_
  exact ⟨rfl, (((Below.refl _ _).alloc (Nat.le_refl _) _).alloc (by simp) _).alloc (by simp; omega) _⟩

/-- Are two heads alike? -/
def hdB (s o l r s' o' l' r' : Int) : Bool := decide (s = s' ∧ o = o' ∧ l = l' ∧ r = r')

set_option maxHeartbeats 400000 in
theorem eqHead (w : World) {s o l r s' o' l' r' : Int} :
    Calls Try.prog 20 #[.agg #[.int .i64 s, .int .i64 o, .int .i64 l, .int .i64 r], .agg #[.int .i64 s', .int .i64 o', .int .i64 l', .int .i64 r']] w (RetV w (.bool (hdB s o l r s' o' l' r'))) := by
  unfold hdB
  by_cases g1 : s = s'
  · by_cases g2 : o = o'
    · by_cases g3 : l = l'
      · by_cases g4 : r = r'
        · subst g1 g2 g3 g4
          rw [decide_eq_true ⟨rfl, rfl, rfl, rfl⟩]
          go_enter Try.func20, Try.ntmps20
          go_wp2
          go_ret
          exact ⟨rfl, ((Below.refl _ _).alloc (Nat.le_refl _) _).alloc (by simp) _⟩
        · subst g1 g2 g3
          rw [decide_eq_false (fun h => g4 h.2.2.2)]
          have g5 : (r != r') = true := by simpa using g4
          clear g4
          go_enter Try.func20, Try.ntmps20
          go_wp2
          go_ret
          exact ⟨rfl, ((Below.refl _ _).alloc (Nat.le_refl _) _).alloc (by simp) _⟩
      · subst g1 g2
        rw [decide_eq_false (fun h => g3 h.2.2.1)]
        have g5 : (l != l') = true := by simpa using g3
        clear g3
        go_enter Try.func20, Try.ntmps20
        go_wp2
        go_ret
        exact ⟨rfl, ((Below.refl _ _).alloc (Nat.le_refl _) _).alloc (by simp) _⟩
    · subst g1
      rw [decide_eq_false (fun h => g2 h.2.1)]
      have g5 : (o != o') = true := by simpa using g2
      clear g2
      go_enter Try.func20, Try.ntmps20
      go_wp2
      go_ret
      exact ⟨rfl, ((Below.refl _ _).alloc (Nat.le_refl _) _).alloc (by simp) _⟩
  · rw [decide_eq_false (fun h => g1 h.1)]
    have g5 : (s != s') = true := by simpa using g1
    clear g1
    go_enter Try.func20, Try.ntmps20
    go_wp2
    go_ret
    exact ⟨rfl, ((Below.refl _ _).alloc (Nat.le_refl _) _).alloc (by simp) _⟩

theorem eqHead_same (w : World) {s o l r : Int} :
    Calls Try.prog 20 #[.agg #[.int .i64 s, .int .i64 o, .int .i64 l, .int .i64 r], .agg #[.int .i64 s, .int .i64 o, .int .i64 l, .int .i64 r]] w (RetV w (.bool true)) := by
  have := eqHead w (s := s) (o := o) (l := l) (r := r) (s' := s) (o' := o) (l' := l) (r' := r)
  rwa [show hdB s o l r s o l r = true from decide_eq_true ⟨rfl, rfl, rfl, rfl⟩] at this

end Go.Proofs.Ytamgikcoknkghab.HeadS

/-
  The draws of chapter 2 (package spec): some head, some floor. What is said of them is that their numbers are of 64 bits, their bytes few.
-/
import Derived.Test.YtamgikcoknkghaaDraw1
import Derived.Test.YtamgikcoknkghaaHeadSA
namespace Go.Proofs.Ytamgikcoknkghaa.Cur
open Go.RowKit Go.Proofs.Ytamgikcoknkghaa.Mem Go.Proofs.Ytamgikcoknkghaa.Pure Go.Proofs.Ytamgikcoknkghaa.Help Go.Proofs.Ytamgikcoknkghaa.FloorI
set_option linter.unusedVariables false

set_option maxHeartbeats 1000000 in
theorem l1From (w : World) {g : Nat} {C : List Int} (h : Cu w g C) {a b : Int} (ha : -1000 ≤ a ∧ a ≤ 1000000) (hb : a ≤ b ∧ b ≤ 1000000) :
    Calls Try.prog 51 #[.pointer (some ⟨g, 0, none⟩), .int .i64 a, .int .i64 b] w (RetN w g C (fun r => a ≤ r ∧ r ≤ b)) := by
  have HC := Lib.hid h
  clear h
  obtain ⟨a1, a2⟩ := ha
  obtain ⟨b1, b2⟩ := hb
  go_enter Try.func51, Try.ntmps51
  go_wp2_with fail
  refine (l1Below w HC.out (n := b - a + 1) (by unfold I64; omega)).mono ?_
  rintro e w1 ⟨r, rfl, ⟨r1, r2, _⟩, hc1, ht1⟩
  have HC1 := Lib.hid hc1
  have HT1 := Lib.hid ht1
  have r3 : r < b - a + 1 := r2 (by omega)
  clear hc1 ht1 r2
  go_wp2_with fail
  go_ret
  exact ⟨_, rfl, by omega, HC1.out, HT1.out⟩

/-- Some head comes back, its numbers of 64 bits, and P holds of it; only the cursor has turned. -/
def RetD (w : World) (g : Nat) (C : List Int) (P : Int → Int → Int → Int → Prop) (e : Ending) (w' : World) : Prop :=
  ∃ s o l r, e = .returned (.agg #[.int .i64 s, .int .i64 o, .int .i64 l, .int .i64 r]) ∧ I64 s ∧ I64 o ∧ I64 l ∧ I64 r ∧ P s o l r ∧ Cu w' g C ∧ OnlyIn g (g + 1) w w'
theorem only_below {lo hi : Nat} {a b c : World} (h : OnlyIn lo hi a b) (k : Below b.heap.size b c) : OnlyIn lo hi a c := h.trans (OnlyIn.of_below k)
theorem only_put {w w' : World} {g k q : Nat} (h : OnlyIn g (g + 1) w w') (hk : w.heap.size ≤ k) (v : Value) : OnlyIn g (g + 1) w (w'.setCell ⟨k, q, none⟩ v) :=
  ⟨h.os, h.tape, h.output, by simpa using h.size, fun i hi hn => (Below.heap_setCell w' _ _ i (by show i ≠ k; omega)).trans (h.block i hi hn)⟩
theorem Cu.put {w : World} {g k q : Nat} {C : List Int} (h : Cu w g C) (hk : g < k) (v : Value) : Cu (w.setCell ⟨k, q, none⟩ v) g C := by
  have ht : OnlyIn k (k + 1) w (w.setCell ⟨k, q, none⟩ v) := ⟨rfl, rfl, rfl, by simp, fun i hi hn => Below.heap_setCell w _ _ i (by show i ≠ k; omega)⟩
  exact h.touch ht hk

set_option maxHeartbeats 1000000 in
theorem l2Draw (w : World) {g : Nat} {C : List Int} (h : Cu w g C) :
    Calls Try.prog 59 #[.pointer (some ⟨g, 0, none⟩)] w (RetD w g C (fun s o l r => headB s o l r = true ∧ s ≤ 20)) := by
  have HC0 := Lib.hid h
  have hg : g < w.heap.size := h.lt
  have HC : Hid (Cu (w.alloc (.cells #[.int .i64 0, .int .i64 0, .int .i64 0, .int .i64 0] 41)) g C) := Lib.hid (h.below ((Below.refl _ _).alloc (Nat.le_refl _) _))
  clear h
  go_enter Try.func59, Try.ntmps59
  go_wp2_with fail
  refine (l1Below _ HC.out (n := 4) (by unfold I64; omega)).mono ?_
  rintro e w1 ⟨r, rfl, ⟨r1, r2, _⟩, hc1, ht1⟩
  have HZ1 : Hid (Blk w1 w.heap.size #[.int .i64 0, .int .i64 0, .int .i64 0, .int .i64 0] 41) := Lib.hid ((Blk.new w _ _).touch ht1 (.inr (by omega)))
  have HT1 : Hid (OnlyIn g (g + 1) w w1) := Lib.hid ((OnlyIn.of_below ((Below.refl _ _).alloc (Nat.le_refl _) _)).trans ht1)
  have HC1 := Lib.hid hc1
  have r3 : r < 4 := r2 (by omega)
  clear hc1 ht1 r2
  go_wp2_with fail
  refine (l1Below w1 HC1.out (n := 12) (by unfold I64; omega)).mono ?_
  rintro e w2 ⟨s, rfl, ⟨s1, s2, _⟩, hc2, ht2⟩
  have HC2 := Lib.hid hc2
  have HT2 := Lib.hid ht2
  have s3 : s < 12 := s2 (by omega)
  clear hc2 ht2 s2
  go_wp2_with fail
  refine (l1From w2 HC2.out (a := -1) (b := 3) (by omega) (by omega)).mono ?_
  rintro e w3 ⟨o, rfl, ⟨o1, o2⟩, hc3, ht3⟩
  have HC3 := Lib.hid hc3
  have HT3 := Lib.hid ht3
  clear hc3 ht3
  go_wp2_with fail
  refine (l1Below w3 HC3.out (n := 6) (by unfold I64; omega)).mono ?_
  rintro e w4 ⟨l, rfl, ⟨l1, l2, _⟩, hc4, ht4⟩
  have HZ4 : Hid (Blk w4 w.heap.size #[.int .i64 0, .int .i64 0, .int .i64 0, .int .i64 0] 41) := Lib.hid ((((HZ1.out.touch HT2.out (.inr (by omega))).touch HT3.out (.inr (by omega))).touch ht4 (.inr (by omega))))
  have HC4 := Lib.hid hc4
  have HT4 := Lib.hid ht4
  have l3 : l < 6 := l2 (by omega)
  clear hc4 ht4 l2
  obtain ⟨c0, c1, c2, c3⟩ := HZ4.out.cells4
  have f0 := HZ4.out.free 0
  have f1 := HZ4.out.free 1
  have f2 := HZ4.out.free 2
  have f3 := HZ4.out.free 3
  go_wp2
  refine bodyPost_ret (v := .agg #[.int .i64 (6 + r + s), .int .i64 o, .int .i64 l, .int .i64 r]) (by simp [results, Try.results59, go_sem, c0, c1, c2, c3]) rfl ?_
  refine ⟨_, _, _, _, rfl, by unfold I64; omega, by unfold I64; omega, by unfold I64; omega, by unfold I64; omega, ⟨headB_iff.2 (by omega), by omega⟩, ?_, ?_⟩
  · exact (((HC4.out.put hg _).put hg _).put hg _).put hg _
  · exact only_put (only_put (only_put (only_put (((HT1.out.trans HT2.out).trans HT3.out).trans HT4.out) (Nat.le_refl _) _) (Nat.le_refl _) _) (Nat.le_refl _) _) (Nat.le_refl _) _

theorem Cu.cur_lt {w w' : World} {g : Nat} {C : List Int} (h : Cu w g C) (hs : w.heap.size ≤ w'.heap.size) : g < w'.heap.size := Nat.lt_of_lt_of_le h.lt hs

/-- What stands behind a drawn head: its own block, and the block of the answer. -/
def Two (w w' : World) (g k : Nat) (C : List Int) (s o l r : Int) : Prop :=
  g < w.heap.size ∧ w.heap.size < k ∧ Blk w' w.heap.size #[.int .i64 0, .int .i64 0, .int .i64 0, .int .i64 0] 41 ∧ Blk w' k #[.int .i64 s, .int .i64 o, .int .i64 l, .int .i64 r] 41 ∧ Cu w' g C ∧ OnlyIn g (g + 1) w w'
theorem Two.go {w w1 w2 : World} {g k : Nat} {C : List Int} {s o l r : Int} (h : Two w w1 g k C s o l r) (hc : Cu w2 g C) (ht : OnlyIn g (g + 1) w1 w2) : Two w w2 g k C s o l r :=
  ⟨h.1, h.2.1, h.2.2.1.touch ht (.inr (by have := h.1; omega)), h.2.2.2.1.touch ht (.inr (by have := h.1; have := h.2.1; omega)), hc, h.2.2.2.2.2.trans ht⟩
theorem Two.grow {w w1 w2 : World} {g k : Nat} {C : List Int} {s o l r : Int} (h : Two w w1 g k C s o l r) (hb : Below w1.heap.size w1 w2) : Two w w2 g k C s o l r :=
  h.go (h.2.2.2.2.1.below hb) (OnlyIn.of_below hb)

set_option maxHeartbeats 4000000 in
theorem l2DrawAny (w : World) {g : Nat} {C : List Int} (h : Cu w g C) :
    Calls Try.prog 50 #[.pointer (some ⟨g, 0, none⟩)] w (RetD w g C (fun _ _ _ _ => True)) := by
  have hg : g < w.heap.size := h.lt
  have HC : Hid (Cu (w.alloc (.cells #[.int .i64 0, .int .i64 0, .int .i64 0, .int .i64 0] 41)) g C) := Lib.hid (h.below ((Below.refl _ _).alloc (Nat.le_refl _) _))
  clear h
  go_enter Try.func50, Try.ntmps50
  go_wp2_with fail
  refine (l2Draw _ HC.out).mono ?_
  rintro e w1 ⟨s, o, l, r, rfl, is, io, il, ir, _, hc1, ht1⟩
  have HIS := Lib.hid is; have HIO := Lib.hid io; have HIL := Lib.hid il; have HIR := Lib.hid ir
  have hkk : w.heap.size < w1.heap.size := Nat.lt_of_lt_of_le (by simp) ht1.size
  have HTW0 : Hid (Two w (w1.alloc (.cells #[.int .i64 s, .int .i64 o, .int .i64 l, .int .i64 r] 41)) g w1.heap.size C s o l r) := Lib.hid
    ⟨hg, hkk, ((Blk.new w _ _).touch ht1 (.inr (by omega))).more _, Blk.new w1 _ _, hc1.below ((Below.refl _ _).alloc (Nat.le_refl _) _),
      only_below ((OnlyIn.of_below ((Below.refl _ _).alloc (Nat.le_refl _) _)).trans ht1) ((Below.refl _ _).alloc (Nat.le_refl _) _)⟩
  obtain ⟨k, hk⟩ : ∃ k, k = w1.heap.size := ⟨_, rfl⟩
  clear hc1 ht1 is io il ir hkk
  go_wp2_with fail
  refine (l1Once _ HTW0.out.2.2.2.2.1 (n := 5) (by unfold I64; omega)).mono ?_
  rintro e w2 ⟨b, rfl, hc2, ht2⟩
  have HTW2 := Lib.hid (HTW0.out.go hc2 ht2)
  rw [← hk] at HTW2 ⊢
  clear hc2 ht2 HTW0 HC hk
  cases b
  · have HTW := HTW2
    clear HTW2
    obtain ⟨c0, c1, c2, c3⟩ := HTW.out.2.2.1.cells4
    have f0 := HTW.out.2.2.1.free 0
    have f1 := HTW.out.2.2.1.free 1
    have f2 := HTW.out.2.2.1.free 2
    have f3 := HTW.out.2.2.1.free 3
    obtain ⟨d0, d1, d2, d3⟩ := HTW.out.2.2.2.1.cells4
    have e0 := HTW.out.2.2.2.1.free 0
    have e1 := HTW.out.2.2.2.1.free 1
    have e2 := HTW.out.2.2.2.1.free 2
    have e3 := HTW.out.2.2.2.1.free 3
    have hne : w.heap.size < k := HTW.out.2.1
    have hne1 : ¬ w.heap.size = k := by omega
    have hne2 : ¬ k = w.heap.size := by omega
    go_wp2
    refine bodyPost_ret (v := .agg #[.int .i64 s, .int .i64 o, .int .i64 l, .int .i64 r]) (by simp [results, Try.results50, go_sem, c0, c1, c2, c3]) rfl ?_
    exact ⟨_, _, _, _, rfl, HIS.out, HIO.out, HIL.out, HIR.out, trivial, ((((HTW.out.2.2.2.2.1.put HTW.out.1 _).put HTW.out.1 _).put HTW.out.1 _).put HTW.out.1 _), (only_put (only_put (only_put (only_put HTW.out.2.2.2.2.2 (Nat.le_refl _) _) (Nat.le_refl _) _) (Nat.le_refl _) _) (Nat.le_refl _) _)⟩
  · go_wp2_with fail
    refine (l1Below w2 HTW2.out.2.2.2.2.1 (n := 4) (by unfold I64; omega)).mono ?_
    rintro e w3 ⟨q, rfl, ⟨q1, q2, _⟩, hc3, ht3⟩
    have HTW3 := Lib.hid (HTW2.out.go hc3 ht3)
    have hq : q = 0 ∨ q = 1 ∨ q = 2 ∨ q = 3 := by have := q2 (by omega); omega
    clear hc3 ht3 q1 q2 HTW2
    rcases hq with rfl | rfl | rfl | rfl
    · go_wp2_with fail
      refine (l1Below _ (HTW3.out.grow ((Below.refl _ _).alloc (Nat.le_refl _) _)).2.2.2.2.1 (n := 5) (by unfold I64; omega)).mono ?_
      rintro e w4 ⟨q, rfl, ⟨q1, q2, _⟩, hc4, ht4⟩
      have hblk := Blk.touch (Blk.new w3 #[.int .i64 5, .int .i64 1000, .int .i64 1001, .int .i64 256, .int .i64 300] 2) ht4 (.inr (by have := HTW3.out.2.2.2.2.1.lt; omega))
      have HTW := Lib.hid ((HTW3.out.grow ((Below.refl _ _).alloc (Nat.le_refl _) _)).go hc4 ht4)
      have hq : q = 0 ∨ q = 1 ∨ q = 2 ∨ q = 3 ∨ q = 4 := by have := q2 (by omega); omega
      clear hc4 ht4 q1 q2 HTW3
      obtain ⟨c0, c1, c2, c3⟩ := HTW.out.2.2.1.cells4
      have f0 := HTW.out.2.2.1.free 0
      have f1 := HTW.out.2.2.1.free 1
      have f2 := HTW.out.2.2.1.free 2
      have f3 := HTW.out.2.2.1.free 3
      obtain ⟨d0, d1, d2, d3⟩ := HTW.out.2.2.2.1.cells4
      have e0 := HTW.out.2.2.2.1.free 0
      have e1 := HTW.out.2.2.2.1.free 1
      have e2 := HTW.out.2.2.2.1.free 2
      have e3 := HTW.out.2.2.2.1.free 3
      have hne : w.heap.size < k := HTW.out.2.1
      have hne1 : ¬ w.heap.size = k := by omega
      have hne2 : ¬ k = w.heap.size := by omega
      rcases hq with rfl | rfl | rfl | rfl | rfl
      · have hc := hblk.cell 0
        clear hblk
        simp at hc
        go_wp2
        refine bodyPost_ret (v := .agg #[.int .i64 5, .int .i64 o, .int .i64 l, .int .i64 r]) (by simp [results, Try.results50, go_sem, c0, c1, c2, c3]) rfl ?_
        exact ⟨_, _, _, _, rfl, by unfold I64; omega, HIO.out, HIL.out, HIR.out, trivial, (((((HTW.out.2.2.2.2.1.put (by have := HTW.out.1; omega) _).put HTW.out.1 _).put HTW.out.1 _).put HTW.out.1 _).put HTW.out.1 _), (only_put (only_put (only_put (only_put (only_put HTW.out.2.2.2.2.2 (by omega) _) (Nat.le_refl _) _) (Nat.le_refl _) _) (Nat.le_refl _) _) (Nat.le_refl _) _)⟩
      · have hc := hblk.cell 1
        clear hblk
        simp at hc
        go_wp2
        refine bodyPost_ret (v := .agg #[.int .i64 1000, .int .i64 o, .int .i64 l, .int .i64 r]) (by simp [results, Try.results50, go_sem, c0, c1, c2, c3]) rfl ?_
        exact ⟨_, _, _, _, rfl, by unfold I64; omega, HIO.out, HIL.out, HIR.out, trivial, (((((HTW.out.2.2.2.2.1.put (by have := HTW.out.1; omega) _).put HTW.out.1 _).put HTW.out.1 _).put HTW.out.1 _).put HTW.out.1 _), (only_put (only_put (only_put (only_put (only_put HTW.out.2.2.2.2.2 (by omega) _) (Nat.le_refl _) _) (Nat.le_refl _) _) (Nat.le_refl _) _) (Nat.le_refl _) _)⟩
      · have hc := hblk.cell 2
        clear hblk
        simp at hc
        go_wp2
        refine bodyPost_ret (v := .agg #[.int .i64 1001, .int .i64 o, .int .i64 l, .int .i64 r]) (by simp [results, Try.results50, go_sem, c0, c1, c2, c3]) rfl ?_
        exact ⟨_, _, _, _, rfl, by unfold I64; omega, HIO.out, HIL.out, HIR.out, trivial, (((((HTW.out.2.2.2.2.1.put (by have := HTW.out.1; omega) _).put HTW.out.1 _).put HTW.out.1 _).put HTW.out.1 _).put HTW.out.1 _), (only_put (only_put (only_put (only_put (only_put HTW.out.2.2.2.2.2 (by omega) _) (Nat.le_refl _) _) (Nat.le_refl _) _) (Nat.le_refl _) _) (Nat.le_refl _) _)⟩
      · have hc := hblk.cell 3
        clear hblk
        simp at hc
        go_wp2
        refine bodyPost_ret (v := .agg #[.int .i64 256, .int .i64 o, .int .i64 l, .int .i64 r]) (by simp [results, Try.results50, go_sem, c0, c1, c2, c3]) rfl ?_
        exact ⟨_, _, _, _, rfl, by unfold I64; omega, HIO.out, HIL.out, HIR.out, trivial, (((((HTW.out.2.2.2.2.1.put (by have := HTW.out.1; omega) _).put HTW.out.1 _).put HTW.out.1 _).put HTW.out.1 _).put HTW.out.1 _), (only_put (only_put (only_put (only_put (only_put HTW.out.2.2.2.2.2 (by omega) _) (Nat.le_refl _) _) (Nat.le_refl _) _) (Nat.le_refl _) _) (Nat.le_refl _) _)⟩
      · have hc := hblk.cell 4
        clear hblk
        simp at hc
        go_wp2
        refine bodyPost_ret (v := .agg #[.int .i64 300, .int .i64 o, .int .i64 l, .int .i64 r]) (by simp [results, Try.results50, go_sem, c0, c1, c2, c3]) rfl ?_
        exact ⟨_, _, _, _, rfl, by unfold I64; omega, HIO.out, HIL.out, HIR.out, trivial, (((((HTW.out.2.2.2.2.1.put (by have := HTW.out.1; omega) _).put HTW.out.1 _).put HTW.out.1 _).put HTW.out.1 _).put HTW.out.1 _), (only_put (only_put (only_put (only_put (only_put HTW.out.2.2.2.2.2 (by omega) _) (Nat.le_refl _) _) (Nat.le_refl _) _) (Nat.le_refl _) _) (Nat.le_refl _) _)⟩
    · go_wp2_with fail
      refine (l1From w3 HTW3.out.2.2.2.2.1 (a := -2) (b := 4) (by omega) (by omega)).mono ?_
      rintro e w4 ⟨x, rfl, ⟨x1, x2⟩, hc4, ht4⟩
      have HX : Hid (I64 x) := Lib.hid (by unfold I64; omega)
      have HTW := Lib.hid (HTW3.out.go hc4 ht4)
      clear hc4 ht4 HTW3
      obtain ⟨c0, c1, c2, c3⟩ := HTW.out.2.2.1.cells4
      have f0 := HTW.out.2.2.1.free 0
      have f1 := HTW.out.2.2.1.free 1
      have f2 := HTW.out.2.2.1.free 2
      have f3 := HTW.out.2.2.1.free 3
      obtain ⟨d0, d1, d2, d3⟩ := HTW.out.2.2.2.1.cells4
      have e0 := HTW.out.2.2.2.1.free 0
      have e1 := HTW.out.2.2.2.1.free 1
      have e2 := HTW.out.2.2.2.1.free 2
      have e3 := HTW.out.2.2.2.1.free 3
      have hne : w.heap.size < k := HTW.out.2.1
      have hne1 : ¬ w.heap.size = k := by omega
      have hne2 : ¬ k = w.heap.size := by omega
      clear x1
      go_wp2
      refine bodyPost_ret (v := .agg #[.int .i64 s, .int .i64 x, .int .i64 l, .int .i64 r]) (by simp [results, Try.results50, go_sem, c0, c1, c2, c3]) rfl ?_
      exact ⟨_, _, _, _, rfl, HIS.out, HX.out, HIL.out, HIR.out, trivial, (((((HTW.out.2.2.2.2.1.put (by have := HTW.out.1; omega) _).put HTW.out.1 _).put HTW.out.1 _).put HTW.out.1 _).put HTW.out.1 _), (only_put (only_put (only_put (only_put (only_put HTW.out.2.2.2.2.2 (by omega) _) (Nat.le_refl _) _) (Nat.le_refl _) _) (Nat.le_refl _) _) (Nat.le_refl _) _)⟩
    · go_wp2_with fail
      refine (l1Num w3 HTW3.out.2.2.2.2.1 (m := 15) (by omega) (by omega)).mono ?_
      rintro e w4 ⟨x, rfl, x1, hc4, ht4⟩
      have HX : Hid (I64 x) := Lib.hid x1
      have HTW := Lib.hid (HTW3.out.go hc4 ht4)
      clear hc4 ht4 HTW3
      obtain ⟨c0, c1, c2, c3⟩ := HTW.out.2.2.1.cells4
      have f0 := HTW.out.2.2.1.free 0
      have f1 := HTW.out.2.2.1.free 1
      have f2 := HTW.out.2.2.1.free 2
      have f3 := HTW.out.2.2.1.free 3
      obtain ⟨d0, d1, d2, d3⟩ := HTW.out.2.2.2.1.cells4
      have e0 := HTW.out.2.2.2.1.free 0
      have e1 := HTW.out.2.2.2.1.free 1
      have e2 := HTW.out.2.2.2.1.free 2
      have e3 := HTW.out.2.2.2.1.free 3
      have hne : w.heap.size < k := HTW.out.2.1
      have hne1 : ¬ w.heap.size = k := by omega
      have hne2 : ¬ k = w.heap.size := by omega
      clear x1
      go_wp2
      refine bodyPost_ret (v := .agg #[.int .i64 s, .int .i64 o, .int .i64 x, .int .i64 r]) (by simp [results, Try.results50, go_sem, c0, c1, c2, c3]) rfl ?_
      exact ⟨_, _, _, _, rfl, HIS.out, HIO.out, HX.out, HIR.out, trivial, (((((HTW.out.2.2.2.2.1.put (by have := HTW.out.1; omega) _).put HTW.out.1 _).put HTW.out.1 _).put HTW.out.1 _).put HTW.out.1 _), (only_put (only_put (only_put (only_put (only_put HTW.out.2.2.2.2.2 (by omega) _) (Nat.le_refl _) _) (Nat.le_refl _) _) (Nat.le_refl _) _) (Nat.le_refl _) _)⟩
    · go_wp2_with fail
      refine (l1Num w3 HTW3.out.2.2.2.2.1 (m := 6) (by omega) (by omega)).mono ?_
      rintro e w4 ⟨x, rfl, x1, hc4, ht4⟩
      have HX : Hid (I64 x) := Lib.hid x1
      have HTW := Lib.hid (HTW3.out.go hc4 ht4)
      clear hc4 ht4 HTW3
      obtain ⟨c0, c1, c2, c3⟩ := HTW.out.2.2.1.cells4
      have f0 := HTW.out.2.2.1.free 0
      have f1 := HTW.out.2.2.1.free 1
      have f2 := HTW.out.2.2.1.free 2
      have f3 := HTW.out.2.2.1.free 3
      obtain ⟨d0, d1, d2, d3⟩ := HTW.out.2.2.2.1.cells4
      have e0 := HTW.out.2.2.2.1.free 0
      have e1 := HTW.out.2.2.2.1.free 1
      have e2 := HTW.out.2.2.2.1.free 2
      have e3 := HTW.out.2.2.2.1.free 3
      have hne : w.heap.size < k := HTW.out.2.1
      have hne1 : ¬ w.heap.size = k := by omega
      have hne2 : ¬ k = w.heap.size := by omega
      clear x1
      go_wp2
      refine bodyPost_ret (v := .agg #[.int .i64 s, .int .i64 o, .int .i64 l, .int .i64 x]) (by simp [results, Try.results50, go_sem, c0, c1, c2, c3]) rfl ?_
      exact ⟨_, _, _, _, rfl, HIS.out, HIO.out, HIL.out, HX.out, trivial, (((((HTW.out.2.2.2.2.1.put (by have := HTW.out.1; omega) _).put HTW.out.1 _).put HTW.out.1 _).put HTW.out.1 _).put HTW.out.1 _), (only_put (only_put (only_put (only_put (only_put HTW.out.2.2.2.2.2 (by omega) _) (Nat.le_refl _) _) (Nat.le_refl _) _) (Nat.le_refl _) _) (Nat.le_refl _) _)⟩
end Go.Proofs.Ytamgikcoknkghaa.Cur

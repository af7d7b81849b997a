/-
  The draws of chapter 4: some ticket, its numbers of 64 bits; some number of 64 bits.
-/
import Derived.Test.YtmipkngikimjgaaDraw1
import Derived.Test.YtmipkngikimjgaaTickS
namespace Go.Proofs.Ytmipkngikimjgaa.Cur
open Go.RowKit Go.Proofs.Ytmipkngikimjgaa.Mem Go.Proofs.Ytmipkngikimjgaa.Pure Go.Proofs.Ytmipkngikimjgaa.Help Go.Proofs.Ytmipkngikimjgaa.FloorI Go.Proofs.Ytmipkngikimjgaa.TickI
set_option linter.unusedVariables false

/-- What stands while a ticket is drawn: the block of the answer, the ticket's own block. -/
structure DT (w : World) (g k : Nat) (C : List Int) (t n s : Int) (w' : World) : Prop where
  lt : g < w.heap.size
  gt : w.heap.size < k
  a : Blk w' w.heap.size #[.int .i64 0, .int .i64 0, .int .i64 0] 25
  b : Blk w' k #[.int .i64 t, .int .i64 n, .int .i64 s] 25
  cu : Cu w' g C
  only : OnlyIn g (g + 1) w w'
theorem DT.go {w w1 w2 : World} {g k : Nat} {C : List Int} {t n s : Int} (h : Hid (DT w g k C t n s w1)) (hc : Cu w2 g C) (ht : OnlyIn g (g + 1) w1 w2) : Hid (DT w g k C t n s w2) :=
  ⟨h.out.lt, h.out.gt, h.out.a.touch ht (.inr (by have := h.out.lt; omega)), h.out.b.touch ht (.inr (by have := h.out.lt; have := h.out.gt; omega)), hc, h.out.only.trans ht⟩
theorem blk_put {w : World} {g : Nat} {cs : Array Value} {t : TypeId} (h : Blk w g cs t) (k : Nat) (v : Value) : Blk (w.setCell ⟨g, k, none⟩ v) g (cs.setIfInBounds k v) t := by
  unfold Blk at h ⊢
  simp [World.setCell, Array.getElem?_modify, h]
theorem only_cell (w : World) (g k : Nat) (v : Value) : OnlyIn g (g + 1) w (w.setCell ⟨g, k, none⟩ v) :=
  ⟨rfl, rfl, rfl, by simp, fun i hi hn => Below.heap_setCell w _ _ i (by show i ≠ g; omega)⟩
theorem only_put' {w w' : World} {g k q : Nat} (h : OnlyIn g (g + 1) w w') (hk : w.heap.size ≤ k) (v : Value) : OnlyIn g (g + 1) w (w'.setCell ⟨k, q, none⟩ v) :=
  ⟨h.os, h.tape, h.output, by simpa using h.size, fun i hi hn => (Below.heap_setCell w' _ _ i (by show i ≠ k; omega)).trans (h.block i hi hn)⟩
theorem Cu.put' {w : World} {g k q : Nat} {C : List Int} (h : Cu w g C) (hk : g < k) (v : Value) : Cu (w.setCell ⟨k, q, none⟩ v) g C :=
  h.touch (only_cell w k q v) hk
/-- A store into the ticket's own block. -/
theorem DT.put {w w1 : World} {g k : Nat} {C : List Int} {t n s t' n' s' : Int} (h : Hid (DT w g k C t n s w1)) (i : Nat) (x : Int) (hv : (#[Value.int .i64 t, .int .i64 n, .int .i64 s]).setIfInBounds i (.int .i64 x) = #[.int .i64 t', .int .i64 n', .int .i64 s']) :
    Hid (DT w g k C t' n' s' (w1.setCell ⟨k, i, none⟩ (.int .i64 x))) :=
  ⟨h.out.lt, h.out.gt, h.out.a.touch (only_cell w1 k i _) (.inl h.out.gt), by have := blk_put h.out.b i (.int .i64 x); rwa [hv] at this, h.out.cu.put' (Nat.lt_trans h.out.lt h.out.gt) _, only_put' h.out.only (Nat.le_of_lt h.out.gt) _⟩
theorem DT.cells {w w' : World} {g k : Nat} {C : List Int} {t n s : Int} (h : Hid (DT w g k C t n s w')) :
    (w'.cell? ⟨w.heap.size, 0, none⟩ = some (.int .i64 0) ∧ w'.cell? ⟨w.heap.size, 1, none⟩ = some (.int .i64 0) ∧ w'.cell? ⟨w.heap.size, 2, none⟩ = some (.int .i64 0)) ∧
    (w'.frozen? ⟨w.heap.size, 0, none⟩ = false ∧ w'.frozen? ⟨w.heap.size, 1, none⟩ = false ∧ w'.frozen? ⟨w.heap.size, 2, none⟩ = false) ∧
    (w'.cell? ⟨k, 0, none⟩ = some (.int .i64 t) ∧ w'.cell? ⟨k, 1, none⟩ = some (.int .i64 n) ∧ w'.cell? ⟨k, 2, none⟩ = some (.int .i64 s)) ∧
    w'.frozen? ⟨k, 0, none⟩ = false ∧ w'.frozen? ⟨k, 1, none⟩ = false ∧ w'.frozen? ⟨k, 2, none⟩ = false :=
  ⟨Blk.cells3 h.out.a, ⟨h.out.a.free 0, h.out.a.free 1, h.out.a.free 2⟩, Blk.cells3 h.out.b, h.out.b.free 0, h.out.b.free 1, h.out.b.free 2⟩

/-- Some ticket comes back, its numbers of 64 bits; only the cursor has turned. -/
def RetK (w : World) (g : Nat) (C : List Int) (e : Ending) (w' : World) : Prop :=
  ∃ t n s, e = .returned (.agg #[.int .i64 t, .int .i64 n, .int .i64 s]) ∧ I64 t ∧ I64 n ∧ I64 s ∧ Cu w' g C ∧ OnlyIn g (g + 1) w w'

/-- The last piece of a draw: the ticket goes into the answer's block. -/
theorem DT.last {w w' : World} {g k : Nat} {C : List Int} {t n s : Int} (h : Hid (DT w g k C t n s w')) (it : I64 t) (inn : I64 n) (is : I64 s) :
    RetK w g C (.returned (.agg #[.int .i64 t, .int .i64 n, .int .i64 s])) (put3 w' w.heap.size (.int .i64 t) (.int .i64 n) (.int .i64 s)) :=
  ⟨t, n, s, rfl, it, inn, is, ((h.out.cu.put' h.out.lt _).put' h.out.lt _).put' h.out.lt _, only_put' (only_put' (only_put' h.out.only (Nat.le_refl _) _) (Nat.le_refl _) _) (Nat.le_refl _) _⟩

set_option maxHeartbeats 4000000 in
theorem l4DrawAny (w : World) {g : Nat} {C : List Int} (h : Cu w g C) :
    Calls Try.prog 37 #[.pointer (some ⟨g, 0, none⟩)] w (RetK w g C) := by
  have hg : g < w.heap.size := h.lt
  have HG := Lib.hid hg
  have HC : Hid (Cu (w.alloc (.cells #[.int .i64 0, .int .i64 0, .int .i64 0] 25)) g C) := Lib.hid (h.below ((Below.refl _ _).alloc (Nat.le_refl _) _))
  clear h
  go_enter Try.func37, Try.ntmps37
  go_wp2_with fail
  refine (l1Below _ HC.out (n := 6) (by unfold I64; omega)).mono ?_
  rintro e w1 ⟨t, rfl, ⟨t1, t2, _⟩, hc1, ht1⟩
  have HZ1 : Hid (Blk w1 w.heap.size #[.int .i64 0, .int .i64 0, .int .i64 0] 25) := Lib.hid ((Blk.new w _ _).touch ht1 (.inr (by omega)))
  have HT1 : Hid (OnlyIn g (g + 1) w w1) := Lib.hid ((OnlyIn.of_below ((Below.refl _ _).alloc (Nat.le_refl _) _)).trans ht1)
  have HC1 := Lib.hid hc1
  have t3 : t < 6 := t2 (by omega)
  clear hc1 ht1 t2
  go_wp2_with fail
  refine (l1Below w1 HC1.out (n := 8) (by unfold I64; omega)).mono ?_
  rintro e w2 ⟨n, rfl, ⟨n1, n2, _⟩, hc2, ht2⟩
  have HC2 := Lib.hid hc2
  have HT2 := Lib.hid ht2
  have n3 : n < 8 := n2 (by omega)
  clear hc2 ht2 n2
  go_wp2_with fail
  refine (l1Below w2 HC2.out (n := 16) (by unfold I64; omega)).mono ?_
  rintro e w3 ⟨s, rfl, ⟨s1, s2, _⟩, hc3, ht3⟩
  have s3 : s < 16 := s2 (by omega)
  have HN : Hid (I64 n) := Lib.hid (by unfold I64; omega)
  have HS : Hid (I64 s) := Lib.hid (by unfold I64; omega)
  have HB : Hid (Blk w3 w.heap.size #[.int .i64 0, .int .i64 0, .int .i64 0] 25) := Lib.hid ((HZ1.out.touch HT2.out (.inr (by omega))).touch ht3 (.inr (by omega)))
  have HT3 : Hid (OnlyIn g (g + 1) w w3) := Lib.hid ((HT1.out.trans HT2.out).trans ht3)
  have HC3 := Lib.hid hc3
  clear hc3 ht3 s2 HZ1 HT1 HC1 HC2 HT2 HC
  obtain ⟨x, hx⟩ : ∃ x, x = 1 + t := ⟨_, rfl⟩
  have HX : Hid (I64 x) := Lib.hid (by unfold I64; omega)
  obtain ⟨k, hk⟩ : ∃ k, k = w3.heap.size := ⟨_, rfl⟩
  have HD : Hid (DT w g k C x n s (w3.alloc (.cells #[.int .i64 x, .int .i64 n, .int .i64 s] 25))) := Lib.hid
    ⟨hg, by rw [hk]; exact HB.out.lt, HB.out.more _, by rw [hk]; exact Blk.new w3 _ _, HC3.out.below ((Below.refl _ _).alloc (Nat.le_refl _) _), HT3.out.trans (OnlyIn.of_below ((Below.refl _ _).alloc (Nat.le_refl _) _))⟩
  rw [hx] at HD
  have HK := Lib.hid hk
  have HXE := Lib.hid hx
  clear hx hk n1 n3 s1 s3
  go_wp2_with fail
  refine (l1Once _ HD.out.cu (n := 5) (by unfold I64; omega)).mono ?_
  rintro e w4 ⟨b, rfl, hc4, ht4⟩
  have HD4 := DT.go HD hc4 ht4
  rw [← HXE.out] at HD4
  rw [← HXE.out, ← HK.out]
  have hlk : w.heap.size < k := HD.out.gt
  clear hc4 ht4 HD t1 t3 HXE HK HB HT3 HC3
  cases b
  · obtain ⟨⟨c0, c1, c2⟩, ⟨f0, f1, f2⟩, ⟨d0, d1, d2⟩, e0, e1, e2⟩ := DT.cells HD4
    go_wp2
    refine bodyPost_ret (v := .agg #[.int .i64 x, .int .i64 n, .int .i64 s]) (by simp [results, Try.results37, go_sem, c0, c1, c2]) rfl ?_
    exact DT.last HD4 HX.out HN.out HS.out
  · go_wp2_with fail
    refine (l1Below w4 HD4.out.cu (n := 3) (by unfold I64; omega)).mono ?_
    rintro e w5 ⟨q, rfl, ⟨q1, q2, _⟩, hc5, ht5⟩
    have HD5 := DT.go HD4 hc5 ht5
    have hq : q = 0 ∨ q = 1 ∨ q = 2 := by have := q2 (by omega); omega
    clear hc5 ht5 q1 q2 HD4
    rcases hq with rfl | rfl | rfl
    · go_wp2_with fail
      refine (l1Num w5 HD5.out.cu (m := 100000) (by omega) (by omega)).mono ?_
      rintro e w6 ⟨y, rfl, y1, hc6, ht6⟩
      have HY : Hid (I64 y) := Lib.hid y1
      have HD6 := DT.go HD5 hc6 ht6
      clear hc6 ht6 HD5 y1
      obtain ⟨⟨c0, c1, c2⟩, ⟨f0, f1, f2⟩, ⟨d0, d1, d2⟩, e0, e1, e2⟩ := DT.cells HD6
      go_wp2
      refine bodyPost_ret (v := .agg #[.int .i64 y, .int .i64 n, .int .i64 s]) (by simp [results, Try.results37, go_sem, c0, c1, c2]) rfl ?_
      exact DT.last (DT.put HD6 0 y rfl) HY.out HN.out HS.out
    · go_wp2_with fail
      refine (l1Num w5 HD5.out.cu (m := 7) (by omega) (by omega)).mono ?_
      rintro e w6 ⟨y, rfl, y1, hc6, ht6⟩
      have HY : Hid (I64 y) := Lib.hid y1
      have HD6 := DT.go HD5 hc6 ht6
      clear hc6 ht6 HD5 y1
      obtain ⟨⟨c0, c1, c2⟩, ⟨f0, f1, f2⟩, ⟨d0, d1, d2⟩, e0, e1, e2⟩ := DT.cells HD6
      go_wp2
      refine bodyPost_ret (v := .agg #[.int .i64 x, .int .i64 y, .int .i64 s]) (by simp [results, Try.results37, go_sem, c0, c1, c2]) rfl ?_
      exact DT.last (DT.put HD6 1 y rfl) HX.out HY.out HS.out
    · go_wp2_with fail
      refine (l1Num w5 HD5.out.cu (m := 15) (by omega) (by omega)).mono ?_
      rintro e w6 ⟨y, rfl, y1, hc6, ht6⟩
      have HY : Hid (I64 y) := Lib.hid y1
      have HD6 := DT.go HD5 hc6 ht6
      clear hc6 ht6 HD5 y1
      obtain ⟨⟨c0, c1, c2⟩, ⟨f0, f1, f2⟩, ⟨d0, d1, d2⟩, e0, e1, e2⟩ := DT.cells HD6
      go_wp2
      refine bodyPost_ret (v := .agg #[.int .i64 x, .int .i64 n, .int .i64 y]) (by simp [results, Try.results37, go_sem, c0, c1, c2]) rfl ?_
      exact DT.last (DT.put HD6 2 y rfl) HX.out HN.out HY.out

/-- Some ticket comes back, its numbers of 64 bits; nothing that was there has turned. -/
def RetT3 (w : World) (e : Ending) (w' : World) : Prop :=
  ∃ t n s, e = .returned (.agg #[.int .i64 t, .int .i64 n, .int .i64 s]) ∧ I64 t ∧ I64 n ∧ I64 s ∧ Below w.heap.size w w'

set_option maxHeartbeats 1000000 in
theorem drawNumberOf (w : World) {v : Value} {C : List Int} (h : Rd w 0 w.heap.size v C) (hC : C.length ≤ 4096) (hb : Byt C) :
    Calls Try.prog 10 #[v] w (RetT3 w) := by
  have hn0 : Below w.heap.size w (w.alloc (.cells #[.int .i64 0, .int .i64 0, .int .i64 0] 25)) := (Below.refl _ _).alloc (Nat.le_refl _) _
  have HR := Lib.hid ((h.below hn0).more (Nat.le_refl _) hn0.size)
  have HN0 := Lib.hid hn0
  clear h hn0
  go_enter Try.func10, Try.ntmps10
  go_wp2_with fail
  refine (l1New _ HR.out hC hb).mono ?_
  rintro e w1 ⟨g, rfl, hg, hc1, hb1⟩
  have HZ1 : Hid (Blk w1 w.heap.size #[.int .i64 0, .int .i64 0, .int .i64 0] 25) := Lib.hid ((Blk.new w _ _).below hb1)
  have HB1 : Hid (Below w.heap.size w w1) := Lib.hid (below_then HN0.out hb1 (Nat.le_refl _))
  have hwg : w.heap.size < g := Nat.lt_of_lt_of_le (by simp) hg
  have HG := Lib.hid hwg
  have HC1 := Lib.hid hc1
  clear hg hc1 hb1 hwg
  go_wp2_with fail
  refine (l4DrawAny w1 HC1.out).mono ?_
  rintro e w2 ⟨t, n, s, rfl, it, inn, is, hc2, ht2⟩
  have HZ2 : Hid (Blk w2 w.heap.size #[.int .i64 0, .int .i64 0, .int .i64 0] 25) := Lib.hid (HZ1.out.touch ht2 (.inl HG.out))
  have HB2 : Hid (Below w.heap.size w w2) := Lib.hid (below_touch HB1.out ht2 (Nat.le_of_lt HG.out) (Nat.le_refl _))
  have HI := Lib.hid it; have HI2 := Lib.hid inn; have HI3 := Lib.hid is
  clear hc2 ht2 it inn is
  obtain ⟨c0, c1, c2⟩ := Blk.cells3 HZ2.out
  have f0 := HZ2.out.free 0
  have f1 := HZ2.out.free 1
  have f2 := HZ2.out.free 2
  go_wp2
  refine bodyPost_ret (v := .agg #[.int .i64 t, .int .i64 n, .int .i64 s]) (by simp [results, Try.results10, go_sem, c0, c1, c2]) rfl ?_
  exact ⟨t, n, s, rfl, HI.out, HI2.out, HI3.out, below_put3 HB2.out (Nat.le_refl _) _ _ _⟩

/-- Some number of 64 bits comes back; nothing that was there has turned. -/
def RetI1 (w : World) (e : Ending) (w' : World) : Prop := ∃ x, e = .returned (.int .i64 x) ∧ I64 x ∧ Below w.heap.size w w'

set_option maxHeartbeats 1000000 in
theorem drawTicketOf (w : World) {v : Value} {C : List Int} (h : Rd w 0 w.heap.size v C) (hC : C.length ≤ 4096) (hb : Byt C) :
    Calls Try.prog 12 #[v] w (RetI1 w) := by
  have HR := Lib.hid h
  clear h
  go_enter Try.func12, Try.ntmps12
  go_wp2_with fail
  refine (l1New _ HR.out hC hb).mono ?_
  rintro e w1 ⟨g, rfl, hg, hc1, hb1⟩
  have HG := Lib.hid hg
  have HC1 := Lib.hid hc1
  have HB1 := Lib.hid hb1
  clear hg hc1 hb1
  go_wp2_with fail
  refine (l1Once w1 HC1.out (n := 4) (by unfold I64; omega)).mono ?_
  rintro e w2 ⟨b, rfl, hc2, ht2⟩
  have HC2 := Lib.hid hc2
  have HB2 : Hid (Below w.heap.size w w2) := Lib.hid (below_touch HB1.out ht2 HG.out (Nat.le_refl _))
  clear hc2 ht2
  cases b
  · go_wp2_with fail
    refine (l1Below w2 HC2.out (n := 2000) (by unfold I64; omega)).mono ?_
    rintro e w3 ⟨x, rfl, ⟨x1, x2, _⟩, hc3, ht3⟩
    have HX : Hid (I64 x) := Lib.hid (by unfold I64; have := x2 (by omega); omega)
    have HB3 : Hid (Below w.heap.size w w3) := Lib.hid (below_touch HB2.out ht3 HG.out (Nat.le_refl _))
    clear hc3 ht3 x1 x2
    go_wp2
    go_ret
    exact ⟨x, rfl, HX.out, HB3.out⟩
  · go_wp2_with fail
    refine (l1Odd w2 HC2.out).mono ?_
    rintro e w3 ⟨y, rfl, hy, hc3, ht3⟩
    have HY := Lib.hid hy
    have HB3 : Hid (Below w.heap.size w w3) := Lib.hid (below_touch HB2.out ht3 HG.out (Nat.le_refl _))
    have hn3 : Below w3.heap.size w3 (w3.alloc (.cells #[.int .i64 (-1), .int .i64 127, .int .i64 128, .int .i64 12800127, .int .i64 12800128, .int .i64 y] 2)) := (Below.refl _ _).alloc (Nat.le_refl _) _
    have HC3 := Lib.hid (hc3.below hn3)
    have HN3 : Hid (Below w.heap.size w _) := Lib.hid (below_then HB3.out hn3 (Nat.le_refl _))
    have HLT := Lib.hid hc3.lt
    clear hc3 ht3 hy hn3
    go_wp2_with fail
    refine (l1Below _ HC3.out (n := 6) (by unfold I64; omega)).mono ?_
    rintro e w4 ⟨q, rfl, ⟨q1, q2, _⟩, hc4, ht4⟩
    have HB4 : Hid (Below w.heap.size w w4) := Lib.hid (below_touch HN3.out ht4 HG.out (Nat.le_refl _))
    have HK := Lib.hid (Blk.touch (Blk.new w3 #[.int .i64 (-1), .int .i64 127, .int .i64 128, .int .i64 12800127, .int .i64 12800128, .int .i64 y] 2) ht4 (.inr HLT.out))
    have hq : q = 0 ∨ q = 1 ∨ q = 2 ∨ q = 3 ∨ q = 4 ∨ q = 5 := by have := q2 (by omega); omega
    clear hc4 ht4 q1 q2
    rcases hq with rfl | rfl | rfl | rfl | rfl | rfl
    · have hc := HK.out.cell 0
      simp at hc
      go_wp2
      go_ret
      exact ⟨_, rfl, by unfold I64; omega, HB4.out⟩
    · have hc := HK.out.cell 1
      simp at hc
      go_wp2
      go_ret
      exact ⟨_, rfl, by unfold I64; omega, HB4.out⟩
    · have hc := HK.out.cell 2
      simp at hc
      go_wp2
      go_ret
      exact ⟨_, rfl, by unfold I64; omega, HB4.out⟩
    · have hc := HK.out.cell 3
      simp at hc
      go_wp2
      go_ret
      exact ⟨_, rfl, by unfold I64; omega, HB4.out⟩
    · have hc := HK.out.cell 4
      simp at hc
      go_wp2
      go_ret
      exact ⟨_, rfl, by unfold I64; omega, HB4.out⟩
    · have hc := HK.out.cell 5
      simp at hc
      go_wp2
      go_ret
      exact ⟨_, rfl, HY.out, HB4.out⟩
end Go.Proofs.Ytmipkngikimjgaa.Cur

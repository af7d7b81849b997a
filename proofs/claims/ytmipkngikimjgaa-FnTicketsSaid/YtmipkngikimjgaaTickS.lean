/-
  The model's chapter 4 (package spec), and the laws' own helpers on tickets: what each hands back, in the words of Pure4. Numbers of 64 bits.
-/
import Derived.Test.YtmipkngikimjgaaFloorS
import Derived.Test.YtmipkngikimjgaaTickI
namespace Go.Proofs.Ytmipkngikimjgaa.TickS
open Go.RowKit Go.Proofs.Ytmipkngikimjgaa.Mem Go.Proofs.Ytmipkngikimjgaa.Pure Go.Proofs.Ytmipkngikimjgaa.Help Go.Proofs.Ytmipkngikimjgaa.FloorI Go.Proofs.Ytmipkngikimjgaa.HeadI Go.Proofs.Ytmipkngikimjgaa.TickI
set_option linter.unusedVariables false

set_option maxHeartbeats 1000000 in
theorem ticketOk (w : World) {t g s : Int} :
    Calls Try.prog 17 #[.agg #[.int .i64 t, .int .i64 g, .int .i64 s]] w (RetV w (.bool (tickB t g s))) := by
  by_cases g1 : 1 ≤ t ∧ t ≤ 100000
  · by_cases g2 : 0 ≤ g ∧ g ≤ 7
    · by_cases g3 : 0 ≤ s ∧ s ≤ 15
      · rw [tickB_iff.2 ⟨g1, g2, g3⟩]
        go_enter Try.func17, Try.ntmps17
        go_wp2_with (go_at_call 47; refine (FloorS.l1In _).mono ?_; rintro e w1 ⟨rfl, rfl⟩)
        go_ret
        exact ⟨by first | rfl | simp, (Below.refl _ _).alloc (Nat.le_refl _) _⟩
      · rw [show tickB t g s = false from by rw [Bool.eq_false_iff]; intro h; exact g3 (tickB_iff.1 h).2.2]
        go_enter Try.func17, Try.ntmps17
        go_wp2_with (go_at_call 47; refine (FloorS.l1In _).mono ?_; rintro e w1 ⟨rfl, rfl⟩)
        go_ret
        exact ⟨by first | rfl | simp, (Below.refl _ _).alloc (Nat.le_refl _) _⟩
    · rw [show tickB t g s = false from by rw [Bool.eq_false_iff]; intro h; exact g2 (tickB_iff.1 h).2.1]
      go_enter Try.func17, Try.ntmps17
      go_wp2_with (go_at_call 47; refine (FloorS.l1In _).mono ?_; rintro e w1 ⟨rfl, rfl⟩)
      go_ret
      exact ⟨by first | rfl | simp, (Below.refl _ _).alloc (Nat.le_refl _) _⟩
  · rw [show tickB t g s = false from by rw [Bool.eq_false_iff]; intro h; exact g1 (tickB_iff.1 h).1]
    go_enter Try.func17, Try.ntmps17
    go_wp2_with (go_at_call 47; refine (FloorS.l1In _).mono ?_; rintro e w1 ⟨rfl, rfl⟩)
    go_ret
    exact ⟨by first | rfl | simp, (Below.refl _ _).alloc (Nat.le_refl _) _⟩

set_option maxHeartbeats 1000000 in
theorem numberOf (w : World) {t g s : Int} :
    Calls Try.prog 15 #[.agg #[.int .i64 t, .int .i64 g, .int .i64 s]] w (RetV w (.int .i64 (numT t g s))) := by
  have HS := Lib.hid (fun w' : World => ticketOk w' (t := t) (g := g) (s := s))
  by_cases hb : tickB t g s = true
  · obtain ⟨⟨t1, t2⟩, ⟨g1, g2⟩, s1, s2⟩ := tickB_iff.1 hb
    have HN : Hid (numT t g s = (t * 8 + g) * 16 + s) := Lib.hid ((num_pos hb).1.trans rfl)
    rw [hb] at HS
    rw [HN.out]
    clear hb HN
    go_enter Try.func15, Try.ntmps15
    go_wp2_with fail
    refine (HS.out _).mono ?_
    rintro e w1 ⟨rfl, hb1⟩
    have HB : Hid (Below w.heap.size w w1) := Lib.hid (below_then ((Below.refl _ _).alloc (Nat.le_refl _) _) hb1 (Nat.le_refl _))
    obtain ⟨c0, c1, c2⟩ := Blk.cells3 ((Blk.new w _ _).below hb1)
    clear hb1
    go_wp2
    go_ret
    exact ⟨rfl, HB.out⟩
  · have hb' : tickB t g s = false := by simpa using hb
    have HN : Hid (numT t g s = -1) := Lib.hid (by unfold numT; rw [if_neg hb])
    rw [HN.out]
    rw [hb'] at HS
    clear hb hb' HN
    go_enter Try.func15, Try.ntmps15
    go_wp2_with fail
    refine (HS.out _).mono ?_
    rintro e w1 ⟨rfl, hb1⟩
    have HB : Hid (Below w.heap.size w w1) := Lib.hid (below_then ((Below.refl _ _).alloc (Nat.le_refl _) _) hb1 (Nat.le_refl _))
    clear hb1
    go_wp2
    go_ret
    exact ⟨rfl, HB.out⟩

set_option maxHeartbeats 1000000 in
theorem ticketOf (w : World) {n : Int} (hn : I64 n) :
    Calls Try.prog 14 #[.int .i64 n] w (RetTB w (tickAt n) (tickAtB n)) := by
  by_cases h0 : n < 0
  · have HT := Lib.hid (tickAt_neg h0)
    have HV : Hid (tickAt n = Tk.zero) := Lib.hid (by unfold tickAt; rw [HT.out]; rfl)
    rw [HT.out, HV.out]
    go_enter Try.func14, Try.ntmps14
    go_wp2
    refine bodyPost_ret (v := .tuple #[.agg #[.int .i64 0, .int .i64 0, .int .i64 0], .bool false]) (by simp [results, Try.results14, go_sem]) rfl ?_
    exact ⟨rfl, (Below.refl _ _).alloc (Nat.le_refl _) _⟩
  · have h1 : 0 ≤ n := by omega
    obtain ⟨_, hn2⟩ := hn
    have HS := Lib.hid (fun w' : World => ticketOk w' (t := n / 128) (g := n / 16 % 8) (s := n % 16))
    have HT : Hid (tickAtB n = tickB (n / 128) (n / 16 % 8) (n % 16)) := Lib.hid rfl
    have HV : Hid (tickAt n = if tickAtB n then ⟨n / 128, n / 16 % 8, n % 16⟩ else Tk.zero) := Lib.hid rfl
    rw [HV.out]
    rw [← HT.out] at HS
    obtain ⟨X, hX⟩ : ∃ X, X = tickAtB n := ⟨_, rfl⟩
    rw [← hX] at HS ⊢
    clear HT HV hX h0
    cases X
    all_goals simp only [Bool.false_eq_true, if_false, if_true]
    · go_enter Try.func14, Try.ntmps14
      go_wp2_with fail
      refine (HS.out _).mono ?_
      rintro e w2 ⟨rfl, hb2⟩
      have hn1 : Below w.heap.size w ((w.alloc (.cells #[.int .i64 0, .int .i64 0, .int .i64 0] 25)).alloc (.cells #[.int .i64 (n / 128), .int .i64 (n / 16 % 8), .int .i64 (n % 16)] 25)) := ((Below.refl _ _).alloc (Nat.le_refl _) _).alloc (by simp) _
      have HZ2 : Hid (Blk w2 w.heap.size #[.int .i64 0, .int .i64 0, .int .i64 0] 25) := Lib.hid (((Blk.new w _ _).more _).below hb2)
      have HY2 : Hid (Blk w2 (w.heap.size + 1) #[.int .i64 (n / 128), .int .i64 (n / 16 % 8), .int .i64 (n % 16)] 25) := Lib.hid (by
        have := (Blk.new (w.alloc (.cells #[.int .i64 0, .int .i64 0, .int .i64 0] 25)) #[.int .i64 (n / 128), .int .i64 (n / 16 % 8), .int .i64 (n % 16)] 25).below hb2
        simpa using this)
      have HB2 : Hid (Below w.heap.size w w2) := Lib.hid (below_then hn1 hb2 (Nat.le_refl _))
      clear hb2 hn1
      obtain ⟨c0, c1, c2⟩ := Blk.cells3 HZ2.out
      obtain ⟨d0, d1, d2⟩ := Blk.cells3 HY2.out
      have f0 := HZ2.out.free 0
      have f1 := HZ2.out.free 1
      have f2 := HZ2.out.free 2
      go_wp2
      refine bodyPost_ret (v := .tuple #[.agg #[.int .i64 0, .int .i64 0, .int .i64 0], .bool false]) (by simp [results, Try.results14, go_sem, c0, c1, c2]) rfl ?_
      exact ⟨rfl, below_put3 HB2.out (Nat.le_refl _) _ _ _⟩
    · go_enter Try.func14, Try.ntmps14
      go_wp2_with fail
      refine (HS.out _).mono ?_
      rintro e w2 ⟨rfl, hb2⟩
      have hn1 : Below w.heap.size w ((w.alloc (.cells #[.int .i64 0, .int .i64 0, .int .i64 0] 25)).alloc (.cells #[.int .i64 (n / 128), .int .i64 (n / 16 % 8), .int .i64 (n % 16)] 25)) := ((Below.refl _ _).alloc (Nat.le_refl _) _).alloc (by simp) _
      have HZ2 : Hid (Blk w2 w.heap.size #[.int .i64 0, .int .i64 0, .int .i64 0] 25) := Lib.hid (((Blk.new w _ _).more _).below hb2)
      have HY2 : Hid (Blk w2 (w.heap.size + 1) #[.int .i64 (n / 128), .int .i64 (n / 16 % 8), .int .i64 (n % 16)] 25) := Lib.hid (by
        have := (Blk.new (w.alloc (.cells #[.int .i64 0, .int .i64 0, .int .i64 0] 25)) #[.int .i64 (n / 128), .int .i64 (n / 16 % 8), .int .i64 (n % 16)] 25).below hb2
        simpa using this)
      have HB2 : Hid (Below w.heap.size w w2) := Lib.hid (below_then hn1 hb2 (Nat.le_refl _))
      clear hb2 hn1
      obtain ⟨c0, c1, c2⟩ := Blk.cells3 HZ2.out
      obtain ⟨d0, d1, d2⟩ := Blk.cells3 HY2.out
      have f0 := HZ2.out.free 0
      have f1 := HZ2.out.free 1
      have f2 := HZ2.out.free 2
      go_wp2
      refine bodyPost_ret (v := .tuple #[.agg #[.int .i64 (n / 128), .int .i64 (n / 16 % 8), .int .i64 (n % 16)], .bool true]) (by simp [results, Try.results14, go_sem, c0, c1, c2]) rfl ?_
      exact ⟨rfl, below_put3 HB2.out (Nat.le_refl _) _ _ _⟩

set_option maxHeartbeats 400000 in
theorem toTicket (w : World) {t g s : Int} :
    Calls Try.prog 18 #[.agg #[.int .i64 t, .int .i64 g, .int .i64 s]] w (RetT w ⟨t, g, s⟩) := by
  go_enter Try.func18, Try.ntmps18
  go_wp2
  refine bodyPost_ret (v := .agg #[.int .i64 t, .int .i64 g, .int .i64 s]) (by simp [results, Try.results18, go_sem]) rfl ?_
  exact ⟨rfl, (((Below.refl _ _).alloc (Nat.le_refl _) _).alloc (by simp) _).alloc (by simp; omega) _⟩

set_option maxHeartbeats 400000 in
theorem eqTicket_same (w : World) {t g s : Int} :
    Calls Try.prog 19 #[.agg #[.int .i64 t, .int .i64 g, .int .i64 s], .agg #[.int .i64 t, .int .i64 g, .int .i64 s]] w (RetV w (.bool true)) := by
  go_enter Try.func19, Try.ntmps19
  go_wp2
  go_ret
  exact ⟨rfl, ((Below.refl _ _).alloc (Nat.le_refl _) _).alloc (by simp) _⟩
end Go.Proofs.Ytmipkngikimjgaa.TickS

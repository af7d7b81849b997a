/-
  Words for orders in memory, and the laws' own helpers on them: toOrderS copies, szOrderS counts, eqOrderS at two that read alike, markOrderS turns nothing but the row. At most 1048576 in all.
-/
import Derived.Test.YtmipkngikimjgaaPure17
import Derived.Test.YtmipkngikimjgaaModSz
import Derived.Test.YtmipkngikimjgaaModEq
import Derived.Deep.RegionHeld3
namespace Go.Proofs.Ytmipkngikimjgaa.Ord
open Go.RowKit Go.Proofs.Ytmipkngikimjgaa.Mem Go.Proofs.Ytmipkngikimjgaa.Pure Go.Proofs.Ytmipkngikimjgaa.Help Go.Proofs.Ytmipkngikimjgaa.Seq Go.Proofs.Ytmipkngikimjgaa.Ints Go.Proofs.Ytmipkngikimjgaa.Nest Go.Proofs.Ytmipkngikimjgaa.Mods
set_option linter.unusedVariables false

/-- The row r shows the order. -/
def orC (k : Od) : List Value := [Value.int .i64 k.k, .int .i64 k.w, .int .i64 k.a, .int .i64 k.b, .int .i64 k.c, .string k.x]
def odS (w : World) (lo hi : Nat) (k : Od) (r : List Value) : Prop := r = orC k
theorem shOd : Shows 6 odS where
  touch := fun h _ _ => h
  more := fun h _ _ => h
  all := fun h => h
  len := by
    rintro w lo hi k r rfl
    rfl
/-- All texts are as long as a text can be. -/
def OdOk (k : Od) : Prop := k.x.size ≤ maxLen
theorem od_cells {w : World} {lo hi n c i : Nat} {A : Option Addr} {K : List Od} {k : Od} (h : RdG 6 odS w lo hi (.slice A n c) K) (hk : K[i]? = some k) :
    ∃ b o, A = some ⟨b, o, none⟩ ∧ b < w.heap.size ∧ w.cell? ⟨b, o + i * 6, none⟩ = some (.int .i64 k.k) ∧ w.cell? ⟨b, o + i * 6 + 1, none⟩ = some (.int .i64 k.w) ∧ w.cell? ⟨b, o + i * 6 + 2, none⟩ = some (.int .i64 k.a) ∧ w.cell? ⟨b, o + i * 6 + 3, none⟩ = some (.int .i64 k.b) ∧ w.cell? ⟨b, o + i * 6 + 4, none⟩ = some (.int .i64 k.c) ∧ w.cell? ⟨b, o + i * 6 + 5, none⟩ = some (.string k.x) := by
  obtain ⟨b, o, r, hA, hb, hc, rfl⟩ := h.spot hk
  exact ⟨b, o, hA, hb, hc 0 _ (by omega) rfl, hc 1 _ (by omega) rfl, hc 2 _ (by omega) rfl, hc 3 _ (by omega) rfl, hc 4 _ (by omega) rfl, hc 5 _ (by omega) rfl⟩

/-- The orders are the call's own. -/
def OwnO (w : World) (lo hi : Nat) (v : Value) (K : List Od) : Prop :=
  ∃ R : List (List Value), R.length = K.length ∧ OwnR w lo hi 90 6 v R ∧ ∀ (i : Nat) (k : Od) (r : List Value), K[i]? = some k → R[i]? = some r → r = orC k

section
variable {w w' : World} {lo hi lo' hi' : Nat} {v : Value} {K : List Od}
theorem OwnO.touch (h : OwnO w lo hi v K) (ht : OnlyIn lo' hi' w w') (hd : hi ≤ lo' ∨ hi' ≤ lo) : OwnO w' lo hi v K := by
  obtain ⟨R, h1, h2, h3⟩ := h
  exact ⟨R, h1, h2.touch ht hd, h3⟩
theorem OwnO.below (h : OwnO w lo hi v K) (hb : Below w.heap.size w w') : OwnO w' lo hi v K := by
  obtain ⟨R, h1, h2, h3⟩ := h
  exact ⟨R, h1, h2.below hb, h3⟩
theorem OwnO.more (h : OwnO w lo hi v K) (h1 : lo' ≤ lo) (h2 : hi ≤ hi') : OwnO w lo' hi' v K := by
  obtain ⟨R, q1, q2, q3⟩ := h
  exact ⟨R, q1, q2.more h1 h2, q3⟩
theorem OwnO.rd (h : OwnO w lo hi v K) : RdG 6 odS w lo hi v K := by
  obtain ⟨R, h1, h2, h3⟩ := h
  exact ⟨R, h1, h2.rd, h3⟩
theorem own_done {g n m : Nat} (h : Fill 90 6 odS g n K m w) (hn : n = K.length) (hm : m = n) (hg : g < w.heap.size) : OwnO w g w.heap.size (.slice (some ⟨g, 0, none⟩) n n) K := by
  obtain ⟨R, h1, h2, h3⟩ := h
  refine ⟨R, by omega, h2.more (Nat.le_refl _) hg, fun i k r hk hr => ?_⟩
  have : i < K.length := (List.getElem?_eq_some_iff.1 hk).1
  exact h3 i k r (by omega) hk hr
end

theorem infoOd : (Try.prog.info? 90).map (fun i => (i.zero, i.size, i.bytes)) = some (some (.agg #[.int .i64 0, .int .i64 0, .int .i64 0, .int .i64 0, .int .i64 0, .string ByteArray.empty]), 6, 56) := by kernel_rfl

theorem setRow6 (w : World) (g o : Nat) (a b c d e f : Value) : setRowAt w g o [a, b, c, d, e, f] = (((((w.setCell ⟨g, o, none⟩ a).setCell ⟨g, o + 1, none⟩ b).setCell ⟨g, o + 2, none⟩ c).setCell ⟨g, o + 3, none⟩ d).setCell ⟨g, o + 4, none⟩ e).setCell ⟨g, o + 5, none⟩ f := rfl

set_option maxHeartbeats 1000000 in
theorem toOrder (w : World) {k : Od} :
    Calls Try.prog 56 #[.agg #[.int .i64 k.k, .int .i64 k.w, .int .i64 k.a, .int .i64 k.b, .int .i64 k.c, .string k.x]] w (RetV w (.agg #[.int .i64 k.k, .int .i64 k.w, .int .i64 k.a, .int .i64 k.b, .int .i64 k.c, .string k.x])) := by
  obtain ⟨p, q, a, b, c, x⟩ := k
  dsimp only
  go_enter Try.func56, Try.ntmps56
  go_wp2
  refine bodyPost_ret (v := .agg #[.int .i64 p, .int .i64 q, .int .i64 a, .int .i64 b, .int .i64 c, .string x]) (by simp [results, Try.results56, go_sem]) rfl ?_
  exact ⟨rfl, (((Below.refl _ _).alloc (Nat.le_refl _) _).alloc (by simp) _).alloc (by simp; omega) _⟩

set_option maxHeartbeats 1000000 in
theorem toOrderS (w : World) {lo hi : Nat} {v : Value} {K : List Od} (h : RdG 6 odS w lo hi v K) (hK : K.length ≤ 1048576) :
    Calls Try.prog 28 #[v] w (fun e w' => ∃ v', e = .returned v' ∧ OwnO w' w.heap.size w'.heap.size v' K ∧ Below w.heap.size w w') := by
  obtain ⟨i0, hi0, hz0, hz1, hz2⟩ := info_parts infoOd
  have HR := Lib.hid h
  obtain ⟨A, c, rfl, hc, hm⟩ := h.form
  clear h hc hm
  obtain ⟨n, hn⟩ : ∃ n, n = K.length := ⟨_, rfl⟩
  have HN := Lib.hid hn
  rw [← hn] at HR hK ⊢
  clear hn
  go_enter Try.func28, Try.ntmps28
  go_wp2_with (at_make; refine wpList_make_full _ rfl _ _ 53 rfl w.heap.size 90 i0 (.agg #[.int .i64 0, .int .i64 0, .int .i64 0, .int .i64 0, .int .i64 0, .string ByteArray.empty]) 6 Try.underlying53 hi0 hz0 hz1 .i64 .i64 _ _ n rfl rfl rfl rfl ?_ ?_ ?_ ?_)
  · rw [hz2]; omega
  · unfold maxLen; omega
  · exact Nat.le_refl _
  · intro w1 hown hg
    have hb1 : Below w.heap.size w w1 := (Below.refl _ _).grown hg (Nat.le_refl _) (fun k hk => by cases hk)
    have ho1 : Fill 90 6 odS w.heap.size n K 0 w1 ∧ w.heap.size < w1.heap.size := by
      have hrow := ownR_of_make (w := w) (sz := 6) (v := .slice (some ⟨w.heap.size, 0, none⟩) n n) (z := #[.int .i64 0, .int .i64 0, .int .i64 0, .int .i64 0, .int .i64 0, .string ByteArray.empty]) rfl (by omega) hown
      exact ⟨fill_new hrow, (hrow.blk (g := w.heap.size) rfl).2.1⟩
    have HO1 := Lib.hid ho1.1
    have HG1 := Lib.hid ho1.2
    have HB1 := Lib.hid hb1
    clear hown hg ho1 hb1 hi0 hz0 hz1 hz2
    go_wp2_with fail
    go_loopw [4] (fun i wr => ∃ k : Nat, k ≤ n ∧ i = .int .i64 k ∧ Hid (Fill 90 6 odS w.heap.size n K k wr) ∧ Hid (Below w.heap.size w wr) ∧ Hid (w.heap.size < wr.heap.size))
      (fun i _ => n - (intOf i).toNat)
    case atStart => exact ⟨0, Nat.zero_le _, rfl, HO1, HB1, HG1⟩
    case round =>
      obtain ⟨k, hk, rfl, ho, hb, hg⟩ := hrel
      by_cases hlt : k < n
      · obtain ⟨s, hs⟩ : ∃ s, K[k]? = some s := ⟨_, List.getElem?_eq_getElem (by have := HN.out; omega)⟩
        have HS := Lib.hid hs
        obtain ⟨b, o, rfl, hb1, c0, c1, c2, c3, c4, c5⟩ := od_cells (HR.out.below shOd hb.out) hs
        clear hs
        go_wp2_with fail
        refine (toOrder _ (k := s)).mono ?_
        rintro e w2 ⟨rfl, hb2⟩
        have HO2 := Lib.hid (ho.out.below shOd hb2)
        have HB2 := Lib.hid (below_then hb.out hb2 (Nat.le_refl _))
        have HG2 := Lib.hid (Nat.lt_of_lt_of_le hg.out hb2.size)
        have HPUT := Lib.hid (Fill.put shOd (k := s) HO2.out HS.out HN.out HG2.out (show odS w2 _ _ s (orC s) from rfl))
        unfold orC at HPUT
        rw [setRow6] at HPUT
        clear hb2 ho
        obtain ⟨f0, u0, d0⟩ := HO2.out.cells hlt 0 (by omega)
        obtain ⟨f1, u1, d1⟩ := HO2.out.cells hlt 1 (by omega)
        obtain ⟨f2, u2, d2⟩ := HO2.out.cells hlt 2 (by omega)
        obtain ⟨f3, u3, d3⟩ := HO2.out.cells hlt 3 (by omega)
        obtain ⟨f4, u4, d4⟩ := HO2.out.cells hlt 4 (by omega)
        obtain ⟨f5, u5, d5⟩ := HO2.out.cells hlt 5 (by omega)
        rw [Nat.add_zero] at f0 d0
        go_wp2
        go_roundw
        case rel => exact ⟨k + 1, by omega, by go_num, Lib.hid HPUT.out.1, Lib.hid (below_touch HB2.out HPUT.out.2 (Nat.le_refl _) (Nat.le_refl _)), Lib.hid (Nat.lt_of_lt_of_le HG2.out HPUT.out.2.size)⟩
        case measure => simp [intOf]; omega
      · obtain rfl : k = n := by omega
        go_wp2
        go_ret
        exact ⟨_, rfl, own_done ho.out HN.out rfl hg.out, hb.out⟩

set_option maxHeartbeats 400000 in
theorem szOrder (w : World) {p q a b c : Int} {x : ByteArray} {m : Int} (hx : x.size ≤ maxLen) (hm : 0 ≤ m ∧ m ≤ 1048576) :
    Calls Try.prog 53 #[.agg #[.int .i64 p, .int .i64 q, .int .i64 a, .int .i64 b, .int .i64 c, .string x], .int .i64 m] w (RetV w (.int .i64 (left m x.size))) := by
  have HB0 : Hid (Below w.heap.size w (w.alloc (.cells #[.int .i64 p, .int .i64 q, .int .i64 a, .int .i64 b, .int .i64 c, .string x] 86))) := Lib.hid ((Below.refl _ _).alloc (Nat.le_refl _) _)
  have hx2 : x.size ≤ 9223372036854775807 := by unfold maxLen at hx; omega
  obtain ⟨m1, m2⟩ := hm
  unfold left
  by_cases hq : m < (x.size : Int)
  · rw [if_pos hq]
    go_enter Try.func53, Try.ntmps53
    go_wp2
    go_ret
    exact ⟨rfl, HB0.out⟩
  · rw [if_neg hq]
    go_enter Try.func53, Try.ntmps53
    go_wp2
    go_ret
    exact ⟨rfl, HB0.out⟩

set_option maxHeartbeats 1000000 in
theorem szOrderS (w : World) {lo hi : Nat} {v : Value} {K : List Od} {m : Int} (h : RdG 6 odS w lo hi v K) (hok : ∀ k ∈ K, OdOk k) (hm : 0 ≤ m ∧ m ≤ 1048576) :
    Calls Try.prog 25 #[v, .int .i64 m] w (RetV w (.int .i64 (left m (K.length + tot odC K)))) := by
  have HR := Lib.hid h
  have HOK := Lib.hid hok
  clear hok
  obtain ⟨A, c, rfl, hc, hmm⟩ := h.form
  clear h
  obtain ⟨n, hn⟩ : ∃ n, n = K.length := ⟨_, rfl⟩
  have HN := Lib.hid hn
  rw [← hn] at HR hc ⊢
  have hnm : n ≤ 9223372036854775807 := by unfold maxLen at hmm; omega
  obtain ⟨X, hX⟩ : ∃ X : Int, X = left m (n + tot odC K) := ⟨_, rfl⟩
  have HX := Lib.hid hX
  rw [← hX]
  obtain ⟨m1, m2⟩ := hm
  clear hn hc hmm hX
  by_cases hbig : m < (n : Int)
  · have e1 : Hid (X = -1) := Lib.hid (by rw [HX.out]; unfold left; rw [if_pos (by omega)])
    rw [e1.out]
    go_enter Try.func25, Try.ntmps25
    go_wp2
    go_ret
    exact ⟨rfl, Below.refl _ _⟩
  · go_enter Try.func25, Try.ntmps25
    go_wp2_with fail
    go_loopw [1, 5] (fun t i wr => ∃ (k : Nat) (z : Int), k ≤ n ∧ i = .int .i64 k ∧ t = .int .i64 z ∧ 0 ≤ z ∧ z ≤ 1048576 ∧ Hid (z = m - (n : Int) - (pre odC K k : Int)) ∧ Hid (Below w.heap.size w wr)) (fun _ i _ => n - (intOf i).toNat)
    case atStart => exact ⟨0, _, Nat.zero_le _, rfl, rfl, by omega, by omega, Lib.hid (by rw [pre_zero]; omega), Lib.hid (Below.refl _ _)⟩
    case round =>
      obtain ⟨k, z, hk, rfl, rfl, hz1, hz2, hz, hb⟩ := hrel
      by_cases hlt : k < n
      · obtain ⟨s, hs⟩ : ∃ s, K[k]? = some s := ⟨_, List.getElem?_eq_getElem (by have := HN.out; omega)⟩
        have HS := Lib.hid hs
        obtain ⟨l, hl⟩ : ∃ l, l = odC s := ⟨_, rfl⟩
        have HL := Lib.hid hl
        obtain ⟨b, o, rfl, hb1, c0, c1, c2, c3, c4, c5⟩ := od_cells (HR.out.below shOd hb.out) hs
        have HC : Hid (∀ w' : World, Below wr.heap.size wr w' → Calls Try.prog 53 #[.agg #[.int .i64 s.k, .int .i64 s.w, .int .i64 s.a, .int .i64 s.b, .int .i64 s.c, .string s.x], .int .i64 z] w' (RetV w' (.int .i64 (left z l)))) := Lib.hid (fun w' _ => by
          rw [hl]
          exact szOrder w' (HOK.out s (List.mem_of_getElem? hs)) ⟨hz1, hz2⟩)
        clear hs hl
        by_cases hq : z < (l : Int)
        · have HC2 : Hid (left z l = -1) := Lib.hid (by unfold left; rw [if_pos hq])
          rw [HC2.out] at HC
          have e1 : Hid (X = -1) := Lib.hid (by
            rw [HX.out]
            unfold left
            rw [if_pos]
            have h1 := pre_succ (c := odC) HS.out
            have h2 := pre_le odC K (k + 1)
            have := hz.out
            have := HL.out
            omega)
          clear hq HC2
          go_wp2_with fail
          refine (HC.out _ (Below.refl _ _)).mono ?_
          rintro e w1 ⟨rfl, hb1⟩
          have HB1 := Lib.hid (below_then hb.out hb1 (Nat.le_refl _))
          clear hb1
          go_wp2
          go_ret
          exact ⟨by rw [e1.out]; rfl, HB1.out⟩
        · have HC2 : Hid (left z l = z - l) := Lib.hid (by unfold left; rw [if_neg hq])
          rw [HC2.out] at HC
          have HZ2 : Hid (z - (l : Int) = m - (n : Int) - (pre odC K (k + 1) : Int)) := Lib.hid (by
            have h1 := pre_succ (c := odC) HS.out
            have := hz.out
            have := HL.out
            omega)
          obtain ⟨z2, hz2e⟩ : ∃ z2, z2 = z - (l : Int) := ⟨_, rfl⟩
          have h20 : 0 ≤ z2 := by omega
          have h21 : z2 ≤ 1048576 := by omega
          rw [← hz2e] at HC HZ2
          clear hq hz2e HC2
          go_wp2_with fail
          refine (HC.out _ (Below.refl _ _)).mono ?_
          rintro e w1 ⟨rfl, hb1⟩
          have HB1 := Lib.hid (below_then hb.out hb1 (Nat.le_refl _))
          clear hb1
          go_wp2
          go_roundw
          case rel => exact ⟨k + 1, z2, by omega, by go_num, rfl, h20, h21, HZ2, HB1⟩
          case measure => simp [intOf]; omega
      · obtain rfl : k = n := by omega
        have e1 : Hid (X = z) := Lib.hid (by
          have h1 : pre odC K k = tot odC K := by unfold tot; rw [← HN.out]
          have := hz.out
          rw [HX.out]
          unfold left
          rw [if_neg (by omega)]
          omega)
        go_wp2
        go_ret
        exact ⟨by rw [e1.out]; rfl, hb.out⟩

set_option maxHeartbeats 1000000 in
theorem eqOrder_same (w : World) {k : Od} :
    Calls Try.prog 61 #[.agg #[.int .i64 k.k, .int .i64 k.w, .int .i64 k.a, .int .i64 k.b, .int .i64 k.c, .string k.x], .agg #[.int .i64 k.k, .int .i64 k.w, .int .i64 k.a, .int .i64 k.b, .int .i64 k.c, .string k.x]] w (RetV w (.bool true)) := by
  obtain ⟨p, q, a, b, c, x⟩ := k
  dsimp only
  have HB : Hid (Below w.heap.size w ((w.alloc (.cells #[.int .i64 p, .int .i64 q, .int .i64 a, .int .i64 b, .int .i64 c, .string x] 90)).alloc (.cells #[.int .i64 p, .int .i64 q, .int .i64 a, .int .i64 b, .int .i64 c, .string x] 90))) := Lib.hid (((Below.refl _ _).alloc (Nat.le_refl _) _).alloc (by simp) _)
  go_enter Try.func61, Try.ntmps61
  go_wp2
  go_ret
  exact ⟨rfl, HB.out⟩

/-- Two rows of orders. -/
structure TwO (w0 : World) (va vb : Value) (K : List Od) (s : Od) (wr : World) : Prop where
  t : TwoG 6 odS w0 va vb K wr
theorem TwO.step {w0 wr w2 : World} {va vb : Value} {K : List Od} {s : Od} (h : Hid (TwO w0 va vb K s wr)) (hb : Below wr.heap.size wr w2) : Hid (TwO w0 va vb K s w2) :=
  Lib.hid ⟨(TwoG.step shOd (Lib.hid h.out.t) hb).out⟩

theorem TwO.call {w0 wr : World} {va vb : Value} {K : List Od} {s : Od} (h : Hid (TwO w0 va vb K s wr)) :
    Calls Try.prog 61 #[.agg #[.int .i64 s.k, .int .i64 s.w, .int .i64 s.a, .int .i64 s.b, .int .i64 s.c, .string s.x], .agg #[.int .i64 s.k, .int .i64 s.w, .int .i64 s.a, .int .i64 s.b, .int .i64 s.c, .string s.x]] wr (RetV wr (.bool true)) :=
  eqOrder_same wr (k := s)

set_option maxHeartbeats 2000000 in
theorem eqOrderS_same (w : World) {la ha lb hb : Nat} {va vb : Value} {K : List Od} (hA : RdG 6 odS w la ha va K) (hB : RdG 6 odS w lb hb vb K) :
    Calls Try.prog 32 #[va, vb] w (RetV w (.bool true)) := by
  have HT : Hid (TwoG 6 odS w va vb K w) := Lib.hid ⟨hA.all shOd, hB.all shOd, Below.refl _ _⟩
  obtain ⟨A, ca, rfl, hca, hma⟩ := hA.form
  obtain ⟨B, cb, rfl, hcb, hmb⟩ := hB.form
  clear hA hB
  obtain ⟨n, hn⟩ : ∃ n, n = K.length := ⟨_, rfl⟩
  have HN := Lib.hid hn
  rw [← hn] at HT hca hcb ⊢
  have hnm : n ≤ 9223372036854775807 := by unfold maxLen at hma; omega
  clear hn hma hmb hca hcb
  go_enter Try.func32, Try.ntmps32
  go_wp2_with fail
  go_loopw [5] (fun i wr => ∃ k : Nat, k ≤ n ∧ i = .int .i64 k ∧ Hid (TwoG 6 odS w (.slice A n ca) (.slice B n cb) K wr)) (fun i _ => n - (intOf i).toNat)
  case atStart => exact ⟨0, Nat.zero_le _, rfl, HT⟩
  case round =>
    obtain ⟨k, hk, rfl, ho⟩ := hrel
    clear HT
    by_cases hlt : k < n
    · obtain ⟨s, hs⟩ : ∃ s, K[k]? = some s := ⟨_, List.getElem?_eq_getElem (by have := HN.out; omega)⟩
      obtain ⟨b1, o1, rfl, hb1, x0, x1, x2, x3, x4, x5⟩ := od_cells ho.out.a hs
      obtain ⟨b2, o2, rfl, hb2, y0, y1, y2, y3, y4, y5⟩ := od_cells ho.out.b hs

      have HW : Hid (TwO w (.slice (some ⟨b1, o1, none⟩) n ca) (.slice (some ⟨b2, o2, none⟩) n cb)  K s wr) := Lib.hid ⟨ho.out⟩
      have HCL : Hid (∀ w2 : World, Below wr.heap.size wr w2 → w2.cell? ⟨b1, o1 + k * 6, none⟩ = some (.int .i64 s.k) ∧ w2.cell? ⟨b1, o1 + k * 6 + 1, none⟩ = some (.int .i64 s.w) ∧ w2.cell? ⟨b1, o1 + k * 6 + 2, none⟩ = some (.int .i64 s.a) ∧ w2.cell? ⟨b1, o1 + k * 6 + 3, none⟩ = some (.int .i64 s.b) ∧ w2.cell? ⟨b1, o1 + k * 6 + 4, none⟩ = some (.int .i64 s.c) ∧ w2.cell? ⟨b1, o1 + k * 6 + 5, none⟩ = some (.string s.x) ∧ w2.cell? ⟨b2, o2 + k * 6, none⟩ = some (.int .i64 s.k) ∧ w2.cell? ⟨b2, o2 + k * 6 + 1, none⟩ = some (.int .i64 s.w) ∧ w2.cell? ⟨b2, o2 + k * 6 + 2, none⟩ = some (.int .i64 s.a) ∧ w2.cell? ⟨b2, o2 + k * 6 + 3, none⟩ = some (.int .i64 s.b) ∧ w2.cell? ⟨b2, o2 + k * 6 + 4, none⟩ = some (.int .i64 s.c) ∧ w2.cell? ⟨b2, o2 + k * 6 + 5, none⟩ = some (.string s.x) ∧ Below wr.heap.size wr w2 ∧ Hid (TwO w (.slice (some ⟨b1, o1, none⟩) n ca) (.slice (some ⟨b2, o2, none⟩) n cb)  K s w2)) := Lib.hid (fun w2 hb =>
        ⟨(hb.cell hb1).trans x0, (hb.cell hb1).trans x1, (hb.cell hb1).trans x2, (hb.cell hb1).trans x3, (hb.cell hb1).trans x4, (hb.cell hb1).trans x5, (hb.cell hb2).trans y0, (hb.cell hb2).trans y1, (hb.cell hb2).trans y2, (hb.cell hb2).trans y3, (hb.cell hb2).trans y4, (hb.cell hb2).trans y5, hb, TwO.step HW hb⟩)
      have huc := HCL.out wr (Below.refl _ _)
      clear hs ho
      go_wp2_with fail
      go_region_held3 (fun w2 => w2.cell? ⟨b1, o1 + k * 6, none⟩ = some (.int .i64 s.k) ∧ w2.cell? ⟨b1, o1 + k * 6 + 1, none⟩ = some (.int .i64 s.w) ∧ w2.cell? ⟨b1, o1 + k * 6 + 2, none⟩ = some (.int .i64 s.a) ∧ w2.cell? ⟨b1, o1 + k * 6 + 3, none⟩ = some (.int .i64 s.b) ∧ w2.cell? ⟨b1, o1 + k * 6 + 4, none⟩ = some (.int .i64 s.c) ∧ w2.cell? ⟨b1, o1 + k * 6 + 5, none⟩ = some (.string s.x) ∧ w2.cell? ⟨b2, o2 + k * 6, none⟩ = some (.int .i64 s.k) ∧ w2.cell? ⟨b2, o2 + k * 6 + 1, none⟩ = some (.int .i64 s.w) ∧ w2.cell? ⟨b2, o2 + k * 6 + 2, none⟩ = some (.int .i64 s.a) ∧ w2.cell? ⟨b2, o2 + k * 6 + 3, none⟩ = some (.int .i64 s.b) ∧ w2.cell? ⟨b2, o2 + k * 6 + 4, none⟩ = some (.int .i64 s.c) ∧ w2.cell? ⟨b2, o2 + k * 6 + 5, none⟩ = some (.string s.x) ∧ Below wr.heap.size wr w2 ∧ Hid (TwO w (.slice (some ⟨b1, o1, none⟩) n ca) (.slice (some ⟨b2, o2, none⟩) n cb)  K s w2))
        (first | exact huc | (go_split_ands; exact HCL.out _ (below_then (by assumption) hb9 (Nat.le_refl _))) | (go_split_ands; exact HCL.out _ (below_then (by assumption) (below_drew _) (Nat.le_refl _))) | go_keep)
        ((go_at_call 61; go_split_ands; refine (TwO.call (by assumption : Hid (TwO w (.slice (some ⟨b1, o1, none⟩) n ca) (.slice (some ⟨b2, o2, none⟩) n cb)  K s _))).mono ?_; rintro e w9 ⟨rfl, hb9⟩))
      have HWE : Hid (TwO w (.slice (some ⟨b1, o1, none⟩) n ca) (.slice (some ⟨b2, o2, none⟩) n cb)  K s w9) := by (go_split_ands; assumption)
      go_wp2
      go_roundw
      case rel => exact ⟨k + 1, by omega, by go_num, Lib.hid HWE.out.t⟩
      case measure => simp [intOf]; omega
    · obtain rfl : k = n := by omega
      go_wp2
      go_ret
      exact ⟨rfl, ho.out.below⟩

set_option maxRecDepth 100000 in
theorem markText (w : World) {k : Nat} (hk : k ≤ 67108864) :
    Calls Try.prog 62 #[.int .i64 (k : Int)] w (fun e w' => ∃ s, e = .returned (.string s) ∧ Below w.heap.size w w') := by
  by_cases h0 : k = 0
  · subst h0
    go_enter Try.func62, Try.ntmps62
    go_wp2
    go_ret
    exact ⟨_, rfl, Below.refl _ _⟩
  · have hp : 0 < k := by omega
    clear h0
    go_enter Try.func62, Try.ntmps62
    go_wp2_with fail
    go_loopw [0, 3] (fun i s wr => ∃ (m : Nat) (t : ByteArray), m ≤ 67108864 ∧ i = .int .i64 (m : Int) ∧ s = .string t ∧ t.size + m ≤ 67108864 ∧ Hid (Below w.heap.size w wr)) (fun i _ _ => (intOf i).toNat)
    case atStart => exact ⟨k, _, hk, rfl, rfl, by show 0 + k ≤ _; omega, Lib.hid (Below.refl _ _)⟩
    case round =>
      obtain ⟨m, t, hm, rfl, rfl, ht, hb⟩ := hrel
      have ht2 : t.size ≤ 67108864 := by omega
      by_cases hlt : 0 < m
      · have hrd : Rd (wr.alloc (.cells #[.int .u8 (48 + (m : Int) % 10)] 5)) 0 (wr.heap.size + 1) (.slice (some ⟨wr.heap.size, 0, none⟩) 1 1) [48 + (m : Int) % 10] := by
          refine ⟨_, 1, rfl, Nat.le_refl _, by decide, fun j hj => ⟨wr.heap.size, 0, rfl, Nat.zero_le _, Nat.lt_succ_self _, by simp, ?_⟩⟩
          obtain rfl : j = 0 := by simpa using hj
          exact (Blk.new wr #[.int .u8 (48 + (m : Int) % 10)] 5).cell 0
        have kc := hrd.conv (P := Try.prog) 22 5 9 Try.underlying22 Try.underlying5 Try.underlying9
        obtain ⟨d, hd⟩ : ∃ d, d = strOfNums [48 + (m : Int) % 10] := ⟨_, rfl⟩
        have hds : d.size = 1 := by rw [hd, strOfNums_size]; rfl
        rw [← hd] at kc
        have HDT : Hid ((d ++ t).size + m / 10 ≤ 67108864) := Lib.hid (by rw [ByteArray.size_append, hds]; omega)
        clear hrd hd
        go_wp2
        go_roundw
        case rel => exact ⟨m / 10, _, by omega, by go_num, rfl, HDT.out, Lib.hid (hb.out.alloc hb.out.size _)⟩
        case measure => simp [intOf]; omega
      · obtain rfl : m = 0 := by omega
        go_wp2
        go_ret
        exact ⟨_, rfl, hb.out⟩
end Go.Proofs.Ytmipkngikimjgaa.Ord

/-
  The laws' own counting of models: szThing .. szModel: what is left, or -1. No condition but that what is left is at most 1048576.
-/
import Derived.Test.YtmipkngikimjgaaModTo
namespace Go.Proofs.Ytmipkngikimjgaa.Mods
open Go.RowKit Go.Proofs.Ytmipkngikimjgaa.Mem Go.Proofs.Ytmipkngikimjgaa.Pure Go.Proofs.Ytmipkngikimjgaa.Help Go.Proofs.Ytmipkngikimjgaa.Seq Go.Proofs.Ytmipkngikimjgaa.Ints Go.Proofs.Ytmipkngikimjgaa.Nest
set_option linter.unusedVariables false

/-- What is left of m when q are taken. -/
def left (m : Int) (q : Nat) : Int := if m < (q : Int) then -1 else m - q

set_option maxHeartbeats 400000 in
theorem szByteS (w : World) {A : Option Addr} {n c : Nat} {m : Int} (hn : n ≤ 9223372036854775807) (hm : 0 ≤ m ∧ m ≤ 1048576) :
    Calls Try.prog 71 #[.slice A n c, .int .i64 m] w (RetV w (.int .i64 (if m < (n : Int) then -1 else m - n))) := by
  obtain ⟨m1, m2⟩ := hm
  by_cases hq : m < (n : Int)
  · rw [if_pos hq]
    go_enter Try.func71, Try.ntmps71
    go_wp2
    go_ret
    exact ⟨rfl, Below.refl _ _⟩
  · rw [if_neg hq]
    go_enter Try.func71, Try.ntmps71
    go_wp2
    go_ret
    exact ⟨rfl, Below.refl _ _⟩

set_option maxHeartbeats 1000000 in
theorem szThing (w : World) {u r : Bool} {g : Int} {A B : Option Addr} {n c l e : Nat} {m : Int} (hn : n ≤ 9223372036854775807) (hl : l ≤ 9223372036854775807) (hm : 0 ≤ m ∧ m ≤ 1048576) :
    Calls Try.prog 79 #[.agg #[.bool u, .bool r, .int .i64 g, .slice A n c, .slice B l e], .int .i64 m] w (RetV w (.int .i64 (left m (n + l)))) := by
  have HX := Lib.hid (fun w' : World => szInt64S w' (A := A) (n := n) (c := c) hn hm)
  have HB0 : Hid (Below w.heap.size w (w.alloc (.cells #[.bool u, .bool r, .int .i64 g, .slice A n c, .slice B l e] 118))) := Lib.hid ((Below.refl _ _).alloc (Nat.le_refl _) _)
  obtain ⟨m1, m2⟩ := hm
  by_cases hq : m < (n : Int)
  · rw [if_pos hq] at HX
    obtain ⟨z, hz⟩ : ∃ z, z = left m (n + l) := ⟨_, rfl⟩
    have HZ : Hid (z = -1) := Lib.hid (by rw [hz]; unfold left; rw [if_pos (by omega)])
    rw [← hz, HZ.out]
    clear hz HZ
    go_enter Try.func79, Try.ntmps79
    go_wp2_with fail
    refine (HX.out _).mono ?_
    rintro e w1 ⟨rfl, hb1⟩
    have HB1 := Lib.hid (below_then HB0.out hb1 (Nat.le_refl _))
    clear hb1
    go_wp2
    go_ret
    exact ⟨rfl, HB1.out⟩
  · rw [if_neg hq] at HX
    have HQ : Hid (0 ≤ m - (n : Int) ∧ m - (n : Int) ≤ 1048576) := Lib.hid (by omega)
    obtain ⟨z, hz⟩ : ∃ z, z = left m (n + l) := ⟨_, rfl⟩
    obtain ⟨p, hp⟩ : ∃ p, p = m - (n : Int) := ⟨_, rfl⟩
    have HZ : Hid (z = if p < (l : Int) then -1 else p - l) := Lib.hid (by rw [hz, hp]; unfold left; split <;> split <;> omega)
    rw [← hp] at HX HQ
    rw [← hz]
    have hp0 := HQ.out.1
    have HY := Lib.hid (fun w' : World => szByteS w' (A := B) (n := l) (c := e) hl HQ.out)
    clear hz hp HQ
    by_cases hq2 : p < (l : Int)
    · rw [if_pos hq2] at HY HZ
      rw [HZ.out]
      clear HZ
      go_enter Try.func79, Try.ntmps79
      go_wp2_with fail
      refine (HX.out _).mono ?_
      rintro e w1 ⟨rfl, hb1⟩
      have HB1 := Lib.hid (below_then HB0.out hb1 (Nat.le_refl _))
      have c4 : w1.cell? ⟨w.heap.size, 4, none⟩ = some (.slice B l e) := ((Blk.new w #[.bool u, .bool r, .int .i64 g, .slice A n c, .slice B l e] 118).below hb1).cell 4
      clear hb1
      go_wp2_with fail
      refine (HY.out _).mono ?_
      rintro e w2 ⟨rfl, hb2⟩
      have HB2 := Lib.hid (below_then HB1.out hb2 (Nat.le_refl _))
      clear hb2
      go_wp2
      go_ret
      exact ⟨rfl, HB2.out⟩
    · rw [if_neg hq2] at HY HZ
      have HQ : Hid (0 ≤ p - (l : Int)) := Lib.hid (by omega)
      rw [← HZ.out] at HY HQ
      have hz0 := HQ.out
      clear HZ HQ
      go_enter Try.func79, Try.ntmps79
      go_wp2_with fail
      refine (HX.out _).mono ?_
      rintro e w1 ⟨rfl, hb1⟩
      have HB1 := Lib.hid (below_then HB0.out hb1 (Nat.le_refl _))
      have c4 : w1.cell? ⟨w.heap.size, 4, none⟩ = some (.slice B l e) := ((Blk.new w #[.bool u, .bool r, .int .i64 g, .slice A n c, .slice B l e] 118).below hb1).cell 4
      clear hb1
      go_wp2_with fail
      refine (HY.out _).mono ?_
      rintro e w2 ⟨rfl, hb2⟩
      have HB2 := Lib.hid (below_then HB1.out hb2 (Nat.le_refl _))
      clear hb2
      go_wp2
      go_ret
      exact ⟨rfl, HB2.out⟩

set_option maxHeartbeats 1000000 in
theorem szThingS (w : World) {lo hi : Nat} {v : Value} {K : List Th} {m : Int} (h : RdG 5 thS w lo hi v K) (hm : 0 ≤ m ∧ m ≤ 1048576) :
    Calls Try.prog 76 #[v, .int .i64 m] w (RetV w (.int .i64 (left m (K.length + tot thC K)))) := by
  have HR := Lib.hid h
  obtain ⟨A, c, rfl, hc, hmm⟩ := h.form
  clear h
  obtain ⟨n, hn⟩ : ∃ n, n = K.length := ⟨_, rfl⟩
  have HN := Lib.hid hn
  rw [← hn] at HR hc ⊢
  have hnm : n ≤ 9223372036854775807 := by unfold maxLen at hmm; omega
  obtain ⟨X, hX⟩ : ∃ X : Int, X = left m (n + tot thC K) := ⟨_, rfl⟩
  have HX := Lib.hid hX
  rw [← hX]
  obtain ⟨m1, m2⟩ := hm
  clear hn hc hmm hX
  by_cases hbig : m < (n : Int)
  · have e1 : Hid (X = -1) := Lib.hid (by rw [HX.out]; unfold left; rw [if_pos (by omega)])
    rw [e1.out]
    go_enter Try.func76, Try.ntmps76
    go_wp2
    go_ret
    exact ⟨rfl, Below.refl _ _⟩
  · go_enter Try.func76, Try.ntmps76
    go_wp2_with fail
    go_loopw [1, 5] (fun t i wr => ∃ (k : Nat) (z : Int), k ≤ n ∧ i = .int .i64 k ∧ t = .int .i64 z ∧ 0 ≤ z ∧ z ≤ 1048576 ∧ Hid (z = m - (n : Int) - (pre thC K k : Int)) ∧ Hid (Below w.heap.size w wr)) (fun _ i _ => n - (intOf i).toNat)
    case atStart => exact ⟨0, _, Nat.zero_le _, rfl, rfl, by omega, by omega, Lib.hid (by rw [pre_zero]; omega), Lib.hid (Below.refl _ _)⟩
    case round =>
      obtain ⟨k, z, hk, rfl, rfl, hz1, hz2, hz, hb⟩ := hrel
      by_cases hlt : k < n
      · obtain ⟨s, hs⟩ : ∃ s, K[k]? = some s := ⟨_, List.getElem?_eq_getElem (by have := HN.out; omega)⟩
        have HS := Lib.hid hs
        obtain ⟨l, hl⟩ : ∃ l, l = thC s := ⟨_, rfl⟩
        have HL := Lib.hid hl
        obtain ⟨b, o, x, y, rfl, hb1, c0, c1, c2, c3, c4, hx, hy⟩ := th_cells (HR.out.below shTh hb.out) hs
        obtain ⟨A2, cx, rfl, hcx, hmx, hzz⟩ := hx
        clear hzz
        obtain ⟨A3, cy, rfl, hcy, hmy, hzz⟩ := hy
        clear hzz
        rw [intR_length] at hcx c3
        obtain ⟨l1, hl1⟩ : ∃ l1, l1 = s.f.length := ⟨_, rfl⟩
        obtain ⟨l2, hl2⟩ : ∃ l2, l2 = s.d.length := ⟨_, rfl⟩
        have e12 : l = l1 + l2 := by rw [hl, hl1, hl2]; rfl
        rw [← hl1] at hcx c3
        rw [← hl2] at hcy c4
        have HC : Hid (∀ w' : World, Below wr.heap.size wr w' → Calls Try.prog 79 #[.agg #[.bool s.u, .bool s.r, .int .i64 s.g, .slice A2 l1 cx, .slice A3 l2 cy], .int .i64 z] w' (RetV w' (.int .i64 (left z l)))) := Lib.hid (fun w' _ => by
          rw [e12]
          exact szThing w' (by unfold maxLen at hmx; omega) (by unfold maxLen at hmy; omega) ⟨hz1, hz2⟩)
        clear e12 hl1 hl2 hcx hmx hcy hmy
        clear hs hl
        by_cases hq : z < (l : Int)
        · have HC2 : Hid (left z l = -1) := Lib.hid (by unfold left; rw [if_pos hq])
          rw [HC2.out] at HC
          have e1 : Hid (X = -1) := Lib.hid (by
            rw [HX.out]
            unfold left
            rw [if_pos]
            have h1 := pre_succ (c := thC) HS.out
            have h2 := pre_le thC K (k + 1)
            have := hz.out
            have := HL.out
            omega)
          clear hq HC2
          go_wp2_with fail
          refine (HC.out _ (Below.refl _ _)).mono ?_
          rintro e w1 ⟨rfl, hb1⟩
          have HB1 := Lib.hid (below_then hb.out hb1 (Nat.le_refl _))
          clear hb1
          go_wp2
          go_ret
          exact ⟨by rw [e1.out]; rfl, HB1.out⟩
        · have HC2 : Hid (left z l = z - l) := Lib.hid (by unfold left; rw [if_neg hq])
          rw [HC2.out] at HC
          have HZ2 : Hid (z - (l : Int) = m - (n : Int) - (pre thC K (k + 1) : Int)) := Lib.hid (by
            have h1 := pre_succ (c := thC) HS.out
            have := hz.out
            have := HL.out
            omega)
          obtain ⟨z2, hz2e⟩ : ∃ z2, z2 = z - (l : Int) := ⟨_, rfl⟩
          have h20 : 0 ≤ z2 := by omega
          have h21 : z2 ≤ 1048576 := by omega
          rw [← hz2e] at HC HZ2
          clear hq hz2e HC2
          go_wp2_with fail
          refine (HC.out _ (Below.refl _ _)).mono ?_
          rintro e w1 ⟨rfl, hb1⟩
          have HB1 := Lib.hid (below_then hb.out hb1 (Nat.le_refl _))
          clear hb1
          go_wp2
          go_roundw
          case rel => exact ⟨k + 1, z2, by omega, by go_num, rfl, h20, h21, HZ2, HB1⟩
          case measure => simp [intOf]; omega
      · obtain rfl : k = n := by omega
        have e1 : Hid (X = z) := Lib.hid (by
          have h1 : pre thC K k = tot thC K := by unfold tot; rw [← HN.out]
          have := hz.out
          rw [HX.out]
          unfold left
          rw [if_neg (by omega)]
          omega)
        go_wp2
        go_ret
        exact ⟨by rw [e1.out]; rfl, hb.out⟩

set_option maxHeartbeats 1000000 in
theorem szRoom (w : World) {lo hi : Nat} {k : Rm} {x : Value} {m : Int} (hx : RdG 5 thS w lo hi x k.T) (hm : 0 ≤ m ∧ m ≤ 1048576) :
    Calls Try.prog 67 #[.agg #[.bool k.l, .int .i64 k.t, .int .i64 k.b, x], .int .i64 m] w (RetV w (.int .i64 (left m (rmC k)))) := by
  have HX := Lib.hid (fun (w' : World) (hb : Below w.heap.size w w') => szThingS w' (hx.below shTh hb) hm)
  obtain ⟨A, n, c, rfl⟩ := rdG_form hx
  obtain ⟨u, r, g, T⟩ := k
  dsimp only at HX ⊢
  have HB0 : Hid (Below w.heap.size w (w.alloc (.cells #[.bool u, .int .i64 r, .int .i64 g, .slice A n c] 107))) := Lib.hid ((Below.refl _ _).alloc (Nat.le_refl _) _)
  obtain ⟨q, hq⟩ : ∃ q, q = left m (T.length + tot thC T) := ⟨_, rfl⟩
  have e : left m (rmC ⟨u, r, g, T⟩) = q := by rw [hq]; rfl
  rw [e]
  rw [← hq] at HX
  have hcase : q = -1 ∨ 0 ≤ q := by rw [hq]; unfold left; split <;> omega
  clear hx hq e hm
  rcases hcase with rfl | hq
  · go_enter Try.func67, Try.ntmps67
    go_wp2_with fail
    refine (HX.out _ HB0.out).mono ?_
    rintro e w1 ⟨rfl, hb1⟩
    have HB1 := Lib.hid (below_then HB0.out hb1 (Nat.le_refl _))
    clear hb1
    go_wp2
    go_ret
    exact ⟨rfl, HB1.out⟩
  · go_enter Try.func67, Try.ntmps67
    go_wp2_with fail
    refine (HX.out _ HB0.out).mono ?_
    rintro e w1 ⟨rfl, hb1⟩
    have HB1 := Lib.hid (below_then HB0.out hb1 (Nat.le_refl _))
    clear hb1
    go_wp2
    go_ret
    exact ⟨rfl, HB1.out⟩

set_option maxHeartbeats 1000000 in
theorem szRoomS (w : World) {lo hi : Nat} {v : Value} {K : List Rm} {m : Int} (h : RdG 4 rmS w lo hi v K) (hm : 0 ≤ m ∧ m ≤ 1048576) :
    Calls Try.prog 48 #[v, .int .i64 m] w (RetV w (.int .i64 (left m (K.length + tot rmC K)))) := by
  have HR := Lib.hid h
  obtain ⟨A, c, rfl, hc, hmm⟩ := h.form
  clear h
  obtain ⟨n, hn⟩ : ∃ n, n = K.length := ⟨_, rfl⟩
  have HN := Lib.hid hn
  rw [← hn] at HR hc ⊢
  have hnm : n ≤ 9223372036854775807 := by unfold maxLen at hmm; omega
  obtain ⟨X, hX⟩ : ∃ X : Int, X = left m (n + tot rmC K) := ⟨_, rfl⟩
  have HX := Lib.hid hX
  rw [← hX]
  obtain ⟨m1, m2⟩ := hm
  clear hn hc hmm hX
  by_cases hbig : m < (n : Int)
  · have e1 : Hid (X = -1) := Lib.hid (by rw [HX.out]; unfold left; rw [if_pos (by omega)])
    rw [e1.out]
    go_enter Try.func48, Try.ntmps48
    go_wp2
    go_ret
    exact ⟨rfl, Below.refl _ _⟩
  · go_enter Try.func48, Try.ntmps48
    go_wp2_with fail
    go_loopw [1, 5] (fun t i wr => ∃ (k : Nat) (z : Int), k ≤ n ∧ i = .int .i64 k ∧ t = .int .i64 z ∧ 0 ≤ z ∧ z ≤ 1048576 ∧ Hid (z = m - (n : Int) - (pre rmC K k : Int)) ∧ Hid (Below w.heap.size w wr)) (fun _ i _ => n - (intOf i).toNat)
    case atStart => exact ⟨0, _, Nat.zero_le _, rfl, rfl, by omega, by omega, Lib.hid (by rw [pre_zero]; omega), Lib.hid (Below.refl _ _)⟩
    case round =>
      obtain ⟨k, z, hk, rfl, rfl, hz1, hz2, hz, hb⟩ := hrel
      by_cases hlt : k < n
      · obtain ⟨s, hs⟩ : ∃ s, K[k]? = some s := ⟨_, List.getElem?_eq_getElem (by have := HN.out; omega)⟩
        have HS := Lib.hid hs
        obtain ⟨l, hl⟩ : ∃ l, l = rmC s := ⟨_, rfl⟩
        have HL := Lib.hid hl
        obtain ⟨b, o, x, rfl, hb1, c0, c1, c2, c3, hx⟩ := rm_cells (HR.out.below shRm hb.out) hs
        obtain ⟨A2, nx, cx, rfl⟩ := rdG_form hx
        have HC : Hid (∀ w' : World, Below wr.heap.size wr w' → Calls Try.prog 67 #[.agg #[.bool s.l, .int .i64 s.t, .int .i64 s.b, .slice A2 nx cx], .int .i64 z] w' (RetV w' (.int .i64 (left z l)))) := Lib.hid (fun w' hb => by
          rw [hl]
          exact szRoom w' (k := s) (hx.below shTh hb) ⟨hz1, hz2⟩)
        clear hx
        clear hs hl
        by_cases hq : z < (l : Int)
        · have HC2 : Hid (left z l = -1) := Lib.hid (by unfold left; rw [if_pos hq])
          rw [HC2.out] at HC
          have e1 : Hid (X = -1) := Lib.hid (by
            rw [HX.out]
            unfold left
            rw [if_pos]
            have h1 := pre_succ (c := rmC) HS.out
            have h2 := pre_le rmC K (k + 1)
            have := hz.out
            have := HL.out
            omega)
          clear hq HC2
          go_wp2_with fail
          refine (HC.out _ (Below.refl _ _)).mono ?_
          rintro e w1 ⟨rfl, hb1⟩
          have HB1 := Lib.hid (below_then hb.out hb1 (Nat.le_refl _))
          clear hb1
          go_wp2
          go_ret
          exact ⟨by rw [e1.out]; rfl, HB1.out⟩
        · have HC2 : Hid (left z l = z - l) := Lib.hid (by unfold left; rw [if_neg hq])
          rw [HC2.out] at HC
          have HZ2 : Hid (z - (l : Int) = m - (n : Int) - (pre rmC K (k + 1) : Int)) := Lib.hid (by
            have h1 := pre_succ (c := rmC) HS.out
            have := hz.out
            have := HL.out
            omega)
          obtain ⟨z2, hz2e⟩ : ∃ z2, z2 = z - (l : Int) := ⟨_, rfl⟩
          have h20 : 0 ≤ z2 := by omega
          have h21 : z2 ≤ 1048576 := by omega
          rw [← hz2e] at HC HZ2
          clear hq hz2e HC2
          go_wp2_with fail
          refine (HC.out _ (Below.refl _ _)).mono ?_
          rintro e w1 ⟨rfl, hb1⟩
          have HB1 := Lib.hid (below_then hb.out hb1 (Nat.le_refl _))
          clear hb1
          go_wp2
          go_roundw
          case rel => exact ⟨k + 1, z2, by omega, by go_num, rfl, h20, h21, HZ2, HB1⟩
          case measure => simp [intOf]; omega
      · obtain rfl : k = n := by omega
        have e1 : Hid (X = z) := Lib.hid (by
          have h1 : pre rmC K k = tot rmC K := by unfold tot; rw [← HN.out]
          have := hz.out
          rw [HX.out]
          unfold left
          rw [if_neg (by omega)]
          omega)
        go_wp2
        go_ret
        exact ⟨by rw [e1.out]; rfl, hb.out⟩

set_option maxHeartbeats 1000000 in
theorem szModel (w : World) {lo hi : Nat} {v : Value} {M : Md} {m : Int} (h : RdM w lo hi v M) (hm : 0 ≤ m ∧ m ≤ 1048576) :
    Calls Try.prog 20 #[v, .int .i64 m] w (RetV w (.int .i64 (left m (mdC M)))) := by
  obtain ⟨x, rfl, hx⟩ := h
  have HX := Lib.hid (fun (w' : World) (hb : Below w.heap.size w w') => szRoomS w' (hx.below shRm hb) hm)
  obtain ⟨A, n, c, rfl⟩ := rdG_form hx
  obtain ⟨s, R, g⟩ := M
  dsimp only at HX ⊢
  have HB0 : Hid (Below w.heap.size w (w.alloc (.cells #[.int .i64 s, .slice A n c, .int .i64 g] 39))) := Lib.hid ((Below.refl _ _).alloc (Nat.le_refl _) _)
  obtain ⟨q, hq⟩ : ∃ q, q = left m (R.length + tot rmC R) := ⟨_, rfl⟩
  have e : left m (mdC ⟨s, R, g⟩) = q := by rw [hq]; rfl
  rw [e]
  rw [← hq] at HX
  have hcase : q = -1 ∨ 0 ≤ q := by rw [hq]; unfold left; split <;> omega
  clear hx hq e hm
  rcases hcase with rfl | hq
  · go_enter Try.func20, Try.ntmps20
    go_wp2_with fail
    refine (HX.out _ HB0.out).mono ?_
    rintro e w1 ⟨rfl, hb1⟩
    have HB1 := Lib.hid (below_then HB0.out hb1 (Nat.le_refl _))
    clear hb1
    go_wp2
    go_ret
    exact ⟨rfl, HB1.out⟩
  · go_enter Try.func20, Try.ntmps20
    go_wp2_with fail
    refine (HX.out _ HB0.out).mono ?_
    rintro e w1 ⟨rfl, hb1⟩
    have HB1 := Lib.hid (below_then HB0.out hb1 (Nat.le_refl _))
    clear hb1
    go_wp2
    go_ret
    exact ⟨rfl, HB1.out⟩
end Go.Proofs.Ytmipkngikimjgaa.Mods

/-
  The laws' own helpers on webs: szKnotS counts, eqKnotS at two webs that read alike, markKnotS turns nothing but the web. At most 1048576 in all.
-/
import Derived.Test.YtmipkngikimjgabWebs
import Derived.Deep.RegionHeld3
namespace Go.Proofs.Ytmipkngikimjgab.HelpK
open Go.RowKit Go.Proofs.Ytmipkngikimjgab.Mem Go.Proofs.Ytmipkngikimjgab.Pure Go.Proofs.Ytmipkngikimjgab.Help Go.Proofs.Ytmipkngikimjgab.Seq Go.Proofs.Ytmipkngikimjgab.Ints Go.Proofs.Ytmipkngikimjgab.Webs
set_option linter.unusedVariables false

/-- How many references the first k knots have together. -/
def pre (K : List Kn) (k : Nat) : Nat := ((K.take k).map fun x => x.f.length).sum
def tot (K : List Kn) : Nat := pre K K.length
theorem pre_zero (K : List Kn) : pre K 0 = 0 := by simp [pre]
theorem pre_succ {K : List Kn} {k : Nat} {s : Kn} (h : K[k]? = some s) : pre K (k + 1) = pre K k + s.f.length := by
  have hk : k < K.length := (List.getElem?_eq_some_iff.1 h).1
  have he : K[k] = s := (List.getElem?_eq_some_iff.1 h).2
  unfold pre
  rw [List.take_succ_eq_append_getElem hk, he]
  simp
theorem pre_le (K : List Kn) (k : Nat) : pre K k ≤ tot K := by
  have h : ∀ d, pre K (K.length - d) ≤ tot K := by
    intro d
    induction d with
    | zero => exact Nat.le_refl _
    | succ d ih =>
      by_cases hq : d < K.length
      · have hk : K.length - (d + 1) < K.length := by omega
        have := pre_succ (K := K) (List.getElem?_eq_getElem hk)
        rw [show K.length - (d + 1) + 1 = K.length - d by omega] at this
        omega
      · rw [show K.length - (d + 1) = K.length - d by omega]
        exact ih
  by_cases hk : k ≤ K.length
  · have := h (K.length - k)
    rwa [show K.length - (K.length - k) = k by omega] at this
  · unfold tot pre
    rw [List.take_of_length_le (by omega), List.take_of_length_le (Nat.le_refl _)]
    exact Nat.le_refl _
theorem one_le_tot {K : List Kn} {k : Kn} (h : k ∈ K) : k.f.length ≤ tot K := by
  obtain ⟨i, hi, rfl⟩ := List.getElem_of_mem h
  have h1 := pre_succ (K := K) (List.getElem?_eq_getElem hi)
  have h2 := pre_le K (i + 1)
  omega

set_option maxHeartbeats 400000 in
theorem szKnot (w : World) {t r : Bool} {A : Option Addr} {n c : Nat} {m : Int} (hn : n ≤ 9223372036854775807) (hm : 0 ≤ m ∧ m ≤ 1048576) :
    Calls Try.prog 40 #[.agg #[.bool t, .bool r, .slice A n c], .int .i64 m] w (RetV w (.int .i64 (if m < (n : Int) then -1 else m - n))) := by
  have HS := Lib.hid (fun w' : World => szInt64S w' (A := A) (n := n) (c := c) hn hm)
  obtain ⟨m1, m2⟩ := hm
  by_cases hq : m < (n : Int)
  · rw [if_pos hq] at HS ⊢
    go_enter Try.func40, Try.ntmps40
    go_wp2_with fail
    refine (HS.out _).mono ?_
    rintro e w1 ⟨rfl, hb1⟩
    have HB1 := Lib.hid (below_then ((Below.refl _ _).alloc (Nat.le_refl _) _) hb1 (Nat.le_refl _))
    clear hb1
    go_wp2
    go_ret
    exact ⟨rfl, HB1.out⟩
  · rw [if_neg hq] at HS ⊢
    have HQ : Hid (0 ≤ m - (n : Int)) := Lib.hid (by omega)
    obtain ⟨z, hz⟩ : ∃ z, z = m - (n : Int) := ⟨_, rfl⟩
    rw [← hz] at HS HQ ⊢
    have hz0 := HQ.out
    clear hz HQ
    go_enter Try.func40, Try.ntmps40
    go_wp2_with fail
    refine (HS.out _).mono ?_
    rintro e w1 ⟨rfl, hb1⟩
    have HB1 := Lib.hid (below_then ((Below.refl _ _).alloc (Nat.le_refl _) _) hb1 (Nat.le_refl _))
    clear hb1
    go_wp2
    go_ret
    exact ⟨rfl, HB1.out⟩

set_option maxHeartbeats 1000000 in
theorem szKnotS (w : World) {lo hi : Nat} {v : Value} {K : List Kn} (h : RdK w lo hi v K) :
    Calls Try.prog 20 #[v, .int .i64 1048576] w (RetV w (.int .i64 (if 1048576 < K.length + tot K then -1 else 1048576 - (K.length : Int) - (tot K : Int)))) := by
  have HR := Lib.hid h
  obtain ⟨A, c, rfl, hc, hm⟩ := h.form
  clear h
  obtain ⟨n, hn⟩ : ∃ n, n = K.length := ⟨_, rfl⟩
  have HN := Lib.hid hn
  rw [← hn] at HR hc ⊢
  have hnm : n ≤ 9223372036854775807 := by unfold maxLen at hm; omega
  obtain ⟨X, hX⟩ : ∃ X : Int, X = if 1048576 < n + tot K then -1 else 1048576 - (n : Int) - (tot K : Int) := ⟨_, rfl⟩
  have HX := Lib.hid hX
  rw [← hX]
  clear hn hc hm hX
  by_cases hbig : 1048576 < n
  · have e1 : Hid (X = -1) := Lib.hid (by rw [HX.out, if_pos (by omega)])
    rw [e1.out]
    go_enter Try.func20, Try.ntmps20
    go_wp2
    go_ret
    exact ⟨rfl, Below.refl _ _⟩
  · go_enter Try.func20, Try.ntmps20
    go_wp2_with fail
    go_loopw [1, 5] (fun t i wr => ∃ (k : Nat) (z : Int), k ≤ n ∧ i = .int .i64 k ∧ t = .int .i64 z ∧ 0 ≤ z ∧ z ≤ 1048576 ∧ Hid (z = 1048576 - (n : Int) - (pre K k : Int)) ∧ Hid (Below w.heap.size w wr)) (fun _ i _ => n - (intOf i).toNat)
    case atStart => exact ⟨0, _, Nat.zero_le _, rfl, rfl, by omega, by omega, Lib.hid (by rw [pre_zero]; omega), Lib.hid (Below.refl _ _)⟩
    case round =>
      obtain ⟨k, z, hk, rfl, rfl, hz1, hz2, hz, hb⟩ := hrel
      by_cases hlt : k < n
      · obtain ⟨s, hs⟩ : ∃ s, K[k]? = some s := ⟨_, List.getElem?_eq_getElem (by have := HN.out; omega)⟩
        obtain ⟨b, o, x, rfl, hb1, c0, c1, c2, hx⟩ := (HR.out.below hb.out).spot hs
        have HS := Lib.hid hs
        obtain ⟨A2, cx, rfl, hcx, hmx, hzz⟩ := hx
        rw [intR_length] at hcx c2
        obtain ⟨l, hl⟩ : ∃ l, l = s.f.length := ⟨_, rfl⟩
        have HL := Lib.hid hl
        rw [← hl] at hcx c2
        have hlm : l ≤ 9223372036854775807 := by unfold maxLen at hmx; omega
        have HC := Lib.hid (fun w' : World => szKnot w' (t := s.t) (r := s.r) (A := A2) (n := l) (c := cx) (m := z) hlm ⟨hz1, hz2⟩)
        clear hs hl hzz hcx hmx
        by_cases hq : z < (l : Int)
        · rw [if_pos hq] at HC
          have e1 : Hid (X = -1) := Lib.hid (by
            rw [HX.out, if_pos]
            have h1 := pre_succ HS.out
            have h2 := pre_le K (k + 1)
            have := hz.out
            have := HL.out
            omega)
          clear hq
          go_wp2_with fail
          refine (HC.out _).mono ?_
          rintro e w1 ⟨rfl, hb1⟩
          have HB1 := Lib.hid (below_then hb.out hb1 (Nat.le_refl _))
          clear hb1
          go_wp2
          go_ret
          exact ⟨by rw [e1.out]; rfl, HB1.out⟩
        · rw [if_neg hq] at HC
          have HZ2 : Hid (z - (l : Int) = 1048576 - (n : Int) - (pre K (k + 1) : Int)) := Lib.hid (by
            have h1 := pre_succ HS.out
            have := hz.out
            have := HL.out
            omega)
          obtain ⟨z2, hz2e⟩ : ∃ z2, z2 = z - (l : Int) := ⟨_, rfl⟩
          have h20 : 0 ≤ z2 := by omega
          have h21 : z2 ≤ 1048576 := by omega
          rw [← hz2e] at HC HZ2
          clear hq hz2e
          go_wp2_with fail
          refine (HC.out _).mono ?_
          rintro e w1 ⟨rfl, hb1⟩
          have HB1 := Lib.hid (below_then hb.out hb1 (Nat.le_refl _))
          clear hb1
          go_wp2
          go_roundw
          case rel => exact ⟨k + 1, z2, by omega, by go_num, rfl, h20, h21, HZ2, HB1⟩
          case measure => simp [intOf]; omega
      · obtain rfl : k = n := by omega
        have e1 : Hid (X = z) := Lib.hid (by
          have h1 : pre K k = tot K := by unfold tot; rw [← HN.out]
          have := hz.out
          rw [HX.out, if_neg (by omega)]
          omega)
        go_wp2
        go_ret
        exact ⟨by rw [e1.out]; rfl, hb.out⟩

set_option maxHeartbeats 400000 in
theorem eqKnot_same (w : World) {t r : Bool} {la ha lb hb : Nat} {x y : Value} {L : List Int} (hA : RdR w la ha 1 x (intR L)) (hB : RdR w lb hb 1 y (intR L)) :
    Calls Try.prog 42 #[.agg #[.bool t, .bool r, x], .agg #[.bool t, .bool r, y]] w (RetV w (.bool true)) := by
  have HC := Lib.hid (fun (w1 : World) (hb : Below w.heap.size w w1) => eqInt64S_same w1 (hA.below hb) (hB.below hb))
  obtain ⟨A, ca, rfl, hca, hma, hz1⟩ := hA
  obtain ⟨B, cb, rfl, hcb, hmb, hz2⟩ := hB
  rw [intR_length] at HC ⊢
  obtain ⟨n, hn⟩ : ∃ n, n = L.length := ⟨_, rfl⟩
  rw [← hn] at HC ⊢
  clear hn hz1 hz2 hca hma hcb hmb
  have HB : Hid (Below w.heap.size w ((w.alloc (.cells #[.bool t, .bool r, .slice A n ca] 36)).alloc (.cells #[.bool t, .bool r, .slice B n cb] 36))) := Lib.hid (((Below.refl _ _).alloc (Nat.le_refl _) _).alloc (by simp) _)
  go_enter Try.func42, Try.ntmps42
  go_wp2_with fail
  refine (HC.out _ HB.out).mono ?_
  rintro e w1 ⟨rfl, hb1⟩
  have HB1 := Lib.hid (below_then HB.out hb1 (Nat.le_refl _))
  clear hb1
  go_wp2
  go_ret
  exact ⟨rfl, HB1.out⟩

/-- Two webs that read alike. -/
structure TwoK (w0 : World) (va vb : Value) (K : List Kn) (wr : World) : Prop where
  a : RdK wr 0 wr.heap.size va K
  b : RdK wr 0 wr.heap.size vb K
  below : Below w0.heap.size w0 wr
theorem TwoK.step {w0 wr w2 : World} {va vb : Value} {K : List Kn} (h : Hid (TwoK w0 va vb K wr)) (hb : Below wr.heap.size wr w2) : Hid (TwoK w0 va vb K w2) :=
  Lib.hid ⟨(h.out.a.below hb).all, (h.out.b.below hb).all, below_then h.out.below hb (Nat.le_refl _)⟩
/-- .. and two of their knots' references. -/
structure Tw2 (w0 : World) (va vb x y : Value) (K : List Kn) (L : List Int) (wr : World) : Prop where
  t : TwoK w0 va vb K wr
  x : RdR wr 0 wr.heap.size 1 x (intR L)
  y : RdR wr 0 wr.heap.size 1 y (intR L)
theorem Tw2.step {w0 wr w2 : World} {va vb x y : Value} {K : List Kn} {L : List Int} (h : Hid (Tw2 w0 va vb x y K L wr)) (hb : Below wr.heap.size wr w2) : Hid (Tw2 w0 va vb x y K L w2) :=
  Lib.hid ⟨(TwoK.step (Lib.hid h.out.t) hb).out, Ints.rdR_all (h.out.x.below hb), Ints.rdR_all (h.out.y.below hb)⟩

set_option maxHeartbeats 1000000 in
theorem eqKnotS_same (w : World) {la ha lb hb : Nat} {va vb : Value} {K : List Kn} (hA : RdK w la ha va K) (hB : RdK w lb hb vb K) :
    Calls Try.prog 22 #[va, vb] w (RetV w (.bool true)) := by
  have HT : Hid (TwoK w va vb K w) := Lib.hid ⟨hA.all, hB.all, Below.refl _ _⟩
  obtain ⟨A, ca, rfl, hca, hma⟩ := hA.form
  obtain ⟨B, cb, rfl, hcb, hmb⟩ := hB.form
  clear hA hB
  obtain ⟨n, hn⟩ : ∃ n, n = K.length := ⟨_, rfl⟩
  have HN := Lib.hid hn
  rw [← hn] at HT hca hcb ⊢
  have hnm : n ≤ 9223372036854775807 := by unfold maxLen at hma; omega
  clear hn hma hmb hca hcb
  go_enter Try.func22, Try.ntmps22
  go_wp2_with fail
  go_loopw [5] (fun i wr => ∃ k : Nat, k ≤ n ∧ i = .int .i64 k ∧ Hid (TwoK w (.slice A n ca) (.slice B n cb) K wr)) (fun i _ => n - (intOf i).toNat)
  case atStart => exact ⟨0, Nat.zero_le _, rfl, HT⟩
  case round =>
    obtain ⟨k, hk, rfl, ho⟩ := hrel
    clear HT
    by_cases hlt : k < n
    · obtain ⟨s, hs⟩ : ∃ s, K[k]? = some s := ⟨_, List.getElem?_eq_getElem (by have := HN.out; omega)⟩
      have HS := Lib.hid hs
      obtain ⟨b1, o1, x, rfl, hb1, x0, x1, x2, hx⟩ := ho.out.a.spot hs
      obtain ⟨b2, o2, y, rfl, hb2, y0, y1, y2, hy⟩ := ho.out.b.spot hs
      have HW : Hid (Tw2 w (.slice (some ⟨b1, o1, none⟩) n ca) (.slice (some ⟨b2, o2, none⟩) n cb) x y K s.f wr) := Lib.hid ⟨ho.out, hx, hy⟩
      obtain ⟨t, r, f⟩ := s
      dsimp only at x0 x1 y0 y1 HW
      have HCL : Hid (∀ w2 : World, Below wr.heap.size wr w2 → w2.cell? ⟨b1, o1 + k * 3, none⟩ = some (.bool t) ∧ w2.cell? ⟨b1, o1 + k * 3 + 1, none⟩ = some (.bool r) ∧ w2.cell? ⟨b1, o1 + k * 3 + 2, none⟩ = some x ∧ w2.cell? ⟨b2, o2 + k * 3, none⟩ = some (.bool t) ∧ w2.cell? ⟨b2, o2 + k * 3 + 1, none⟩ = some (.bool r) ∧ w2.cell? ⟨b2, o2 + k * 3 + 2, none⟩ = some y ∧ Below wr.heap.size wr w2 ∧ Hid (Tw2 w (.slice (some ⟨b1, o1, none⟩) n ca) (.slice (some ⟨b2, o2, none⟩) n cb) x y K f w2)) := Lib.hid (fun w2 hb =>
        ⟨(hb.cell hb1).trans x0, (hb.cell hb1).trans x1, (hb.cell hb1).trans x2, (hb.cell hb2).trans y0, (hb.cell hb2).trans y1, (hb.cell hb2).trans y2, hb, Tw2.step HW hb⟩)
      have huc := HCL.out wr (Below.refl _ _)
      clear hs hx hy ho
      go_wp2_with fail
      go_region_held3 (fun w2 => w2.cell? ⟨b1, o1 + k * 3, none⟩ = some (.bool t) ∧ w2.cell? ⟨b1, o1 + k * 3 + 1, none⟩ = some (.bool r) ∧ w2.cell? ⟨b1, o1 + k * 3 + 2, none⟩ = some x ∧ w2.cell? ⟨b2, o2 + k * 3, none⟩ = some (.bool t) ∧ w2.cell? ⟨b2, o2 + k * 3 + 1, none⟩ = some (.bool r) ∧ w2.cell? ⟨b2, o2 + k * 3 + 2, none⟩ = some y ∧ Below wr.heap.size wr w2 ∧ Hid (Tw2 w (.slice (some ⟨b1, o1, none⟩) n ca) (.slice (some ⟨b2, o2, none⟩) n cb) x y K f w2))
        (first | exact huc | (go_split_ands; exact HCL.out _ (below_then (by assumption) hb9 (Nat.le_refl _))) | (go_split_ands; exact HCL.out _ (below_then (by assumption) (below_drew _) (Nat.le_refl _))) | go_keep)
        ((go_at_call 42; go_split_ands; refine (eqKnot_same _ (Hid.out (by assumption : Hid (Tw2 w (.slice (some ⟨b1, o1, none⟩) n ca) (.slice (some ⟨b2, o2, none⟩) n cb) x y K f _))).x (Hid.out (by assumption : Hid (Tw2 w (.slice (some ⟨b1, o1, none⟩) n ca) (.slice (some ⟨b2, o2, none⟩) n cb) x y K f _))).y).mono ?_; rintro e w9 ⟨rfl, hb9⟩))
      have HWE : Hid (Tw2 w (.slice (some ⟨b1, o1, none⟩) n ca) (.slice (some ⟨b2, o2, none⟩) n cb) x y K f w9) := by (go_split_ands; assumption)
      go_wp2
      go_roundw
      case rel => exact ⟨k + 1, by omega, by go_num, Lib.hid HWE.out.t⟩
      case measure => simp [intOf]; omega
    · obtain rfl : k = n := by omega
      go_wp2
      go_ret
      exact ⟨rfl, ho.out.below⟩
end Go.Proofs.Ytmipkngikimjgab.HelpK

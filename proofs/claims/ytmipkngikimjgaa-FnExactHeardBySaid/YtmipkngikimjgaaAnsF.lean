/-
  The laws' own helpers on answers: toAnswerS copies, szAnswerS counts, eqAnswerS at two that read alike, markAnswerS writes marks, heldAnswerS asks for them. At most 1048576 in all.
-/
import Derived.Test.YtmipkngikimjgaaAns
import Derived.Test.YtmipkngikimjgaaModSz
import Derived.Test.YtmipkngikimjgaaModEq
import Derived.Deep.RegionHeld3
namespace Go.Proofs.Ytmipkngikimjgaa.Ans
open Go.RowKit Go.Proofs.Ytmipkngikimjgaa.Mem Go.Proofs.Ytmipkngikimjgaa.Pure Go.Proofs.Ytmipkngikimjgaa.Help Go.Proofs.Ytmipkngikimjgaa.Seq Go.Proofs.Ytmipkngikimjgaa.Ints Go.Proofs.Ytmipkngikimjgaa.Nest Go.Proofs.Ytmipkngikimjgaa.Mods
set_option linter.unusedVariables false

theorem setRow3 (w : World) (g o : Nat) (a b c : Value) : setRowAt w g o [a, b, c] = ((w.setCell ⟨g, o, none⟩ a).setCell ⟨g, o + 1, none⟩ b).setCell ⟨g, o + 2, none⟩ c := rfl
theorem fill_ans (K : List An) (i : Nat) {k : An} (hk : K[i]? = some k) :
    (K.take i ++ List.replicate (K.length - i) za).set i k = K.take (i + 1) ++ List.replicate (K.length - (i + 1)) za := by
  have hi : i < K.length := (List.getElem?_eq_some_iff.1 hk).1
  have e1 : (K.take i).length = i := by rw [List.length_take]; omega
  have e2 : K.length - i = (K.length - (i + 1)) + 1 := by omega
  have e3 : K[i] = k := (List.getElem?_eq_some_iff.1 hk).2
  rw [List.set_append_right _ _ (by omega), e1, Nat.sub_self, e2, List.replicate_succ, List.set_cons_zero, List.take_succ_eq_append_getElem hi, List.append_assoc, e3]
  rfl
theorem fill_an_at (K : List An) (i : Nat) (hi : i < K.length) : (K.take i ++ List.replicate (K.length - i) za)[i]? = some za := by
  have e1 : (K.take i).length = i := by rw [List.length_take]; omega
  rw [List.getElem?_append_right (by omega), e1, Nat.sub_self, List.getElem?_replicate, if_pos (by omega)]

set_option maxHeartbeats 1000000 in
theorem toAnswer (w : World) {lo hi : Nat} {k : An} {y : Value} (hy : Rd w lo hi y k.d) (hd : k.d.length ≤ 1048576) :
    Calls Try.prog 57 #[.agg #[.int .i64 k.c, .int .i64 k.n, y]] w (fun e w' => ∃ y', e = .returned (.agg #[.int .i64 k.c, .int .i64 k.n, y']) ∧ Own w' w.heap.size w'.heap.size y' k.d ∧ Below w.heap.size w w') := by
  obtain ⟨s, n, d⟩ := k
  dsimp only at hy hd ⊢
  have HX := Lib.hid (fun (w1 : World) (hb : Below w.heap.size w w1) => toByteS w1 (hy.below hb) hd)
  obtain ⟨A, l, c, rfl⟩ := rd_form hy
  clear hy hd
  obtain ⟨w1, hw1⟩ : ∃ w1, w1 = ((w.alloc (.cells #[.int .i64 s, .int .i64 n, .slice A l c] 89)).alloc (.cells #[.int .i64 0, .int .i64 0, .slice none 0 0] 91)).alloc (.cells #[.int .i64 s, .int .i64 n, .slice none 0 0] 91) := ⟨_, rfl⟩
  have HW1 := Lib.hid hw1
  have HB1 : Hid (Below w.heap.size w w1) := Lib.hid (by rw [hw1]; exact (((Below.refl _ _).alloc (Nat.le_refl _) _).alloc (by simp) _).alloc (by simp; omega) _)
  have HS1 : Hid (w1.heap.size = w.heap.size + 3) := Lib.hid (by rw [hw1]; simp)
  have HK1 : Hid (Blk w1 (w.heap.size + 1) #[.int .i64 0, .int .i64 0, .slice none 0 0] 91) := Lib.hid (by
    rw [hw1]
    have := (Blk.new (w.alloc (.cells #[.int .i64 s, .int .i64 n, .slice A l c] 89)) #[.int .i64 0, .int .i64 0, .slice none 0 0] 91).more (.cells #[.int .i64 s, .int .i64 n, .slice none 0 0] 91)
    simpa using this)
  have HO1 : Hid (Blk w1 (w.heap.size + 1 + 1) #[.int .i64 s, .int .i64 n, .slice none 0 0] 91) := Lib.hid (by
    rw [hw1]
    have := Blk.new ((w.alloc (.cells #[.int .i64 s, .int .i64 n, .slice A l c] 89)).alloc (.cells #[.int .i64 0, .int .i64 0, .slice none 0 0] 91)) #[.int .i64 s, .int .i64 n, .slice none 0 0] 91
    simpa using this)
  clear hw1
  go_enter Try.func57, Try.ntmps57
  go_wp2_with fail
  rw [← HW1.out]
  refine (HX.out w1 HB1.out).mono ?_
  rintro e2 w2 ⟨x2, rfl, ho2, hb2⟩
  obtain ⟨Ay, ny, cy, rfl⟩ := own_form ho2
  have HR2 := Lib.hid ho2
  have HB2 := Lib.hid hb2
  have HK2 := Lib.hid (HK1.out.below hb2)
  have HO2 := Lib.hid (HO1.out.below hb2)
  obtain ⟨⟨a0, a1, a2⟩, z0, z1, z2⟩ := blk3 HK2.out
  obtain ⟨⟨d0, d1, d2⟩, e0, e1, e2⟩ := blk3 HO2.out
  have HB3 := Lib.hid (below_then HB1.out hb2 (Nat.le_refl _))
  clear ho2 hb2
  go_wp2
  refine bodyPost_ret (v := .agg #[.int .i64 s, .int .i64 n, .slice Ay ny cy]) (by simp [results, Try.results57, go_sem, a0, a1, a2]) rfl ?_
  have hq : Hid (w.heap.size ≤ w.heap.size + 1 ∧ w.heap.size + 1 < w1.heap.size) := Lib.hid (by have := HS1.out; omega)
  have hp : Hid (w.heap.size ≤ w.heap.size + 1 + 1 ∧ w.heap.size + 1 + 1 < w1.heap.size) := Lib.hid (by have := HS1.out; omega)
  have ht := (((only_in (lo := w.heap.size) (hi := w1.heap.size) (g := w.heap.size + 1 + 1) w2 2 (.slice Ay ny cy) hp.out).trans (only_in (g := w.heap.size + 1) _ 0 (.int .i64 s) hq.out)).trans (only_in (g := w.heap.size + 1) _ 1 (.int .i64 n) hq.out)).trans (only_in (g := w.heap.size + 1) _ 2 (.slice Ay ny cy) hq.out)
  exact ⟨_, rfl, (HR2.out.touch ht (.inr (Nat.le_refl _))).more HB1.out.size ht.size, below_touch HB3.out ht (Nat.le_refl _) (Nat.le_refl _)⟩

set_option maxHeartbeats 1000000 in
theorem toAnswerS (w : World) {lo hi : Nat} {v : Value} {K : List An} (h : RdG 3 anS w lo hi v K) (hK : K.length ≤ 1048576) (hF : ∀ k ∈ K, anC k ≤ 1048576) :
    Calls Try.prog 29 #[v] w (fun e w' => ∃ v', e = .returned v' ∧ OwnA w' w.heap.size w'.heap.size v' K ∧ Below w.heap.size w w') := by
  obtain ⟨i0, hi0, hz0, hz1, hz2⟩ := info_parts infoA
  have HR := Lib.hid h
  have HF := Lib.hid hF
  obtain ⟨A, c, rfl, hc, hm⟩ := h.form
  clear h hc hm hF
  obtain ⟨n, hn⟩ : ∃ n, n = K.length := ⟨_, rfl⟩
  have HN := Lib.hid hn
  rw [← hn] at HR hK ⊢
  clear hn
  go_enter Try.func29, Try.ntmps29
  go_wp2_with (at_make; refine wpList_make_full _ rfl _ _ 51 rfl w.heap.size 91 i0 (.agg #[.int .i64 0, .int .i64 0, .slice none 0 0]) 3 Try.underlying51 hi0 hz0 hz1 .i64 .i64 _ _ n rfl rfl rfl rfl ?_ ?_ ?_ ?_)
  · rw [hz2]; omega
  · unfold maxLen; omega
  · exact Nat.le_refl _
  · intro w1 hown hg
    have hb1 : Below w.heap.size w w1 := (Below.refl _ _).grown hg (Nat.le_refl _) (fun k hk => by cases hk)
    have ho1 : OwnA w1 w.heap.size w1.heap.size (.slice (some ⟨w.heap.size, 0, none⟩) n n) (K.take 0 ++ List.replicate (n - 0) za) := by
      have := ownA_zero (ownR_of_make (w := w) (sz := 3) (v := .slice (some ⟨w.heap.size, 0, none⟩) n n) (z := #[.int .i64 0, .int .i64 0, .slice none 0 0]) rfl (by omega) hown)
      simpa using this
    have HO1 := Lib.hid ho1
    have HB1 := Lib.hid hb1
    clear hown hg ho1 hb1 hi0 hz0 hz1 hz2
    go_wp2_with fail
    go_loopw [4] (fun i wr => ∃ k : Nat, k ≤ n ∧ i = .int .i64 k ∧ Hid (OwnA wr w.heap.size wr.heap.size (.slice (some ⟨w.heap.size, 0, none⟩) n n) (K.take k ++ List.replicate (n - k) za)) ∧ Hid (Below w.heap.size w wr))
      (fun i _ => n - (intOf i).toNat)
    case atStart => exact ⟨0, Nat.zero_le _, rfl, HO1, HB1⟩
    case round =>
      obtain ⟨k, hk, rfl, ho, hb⟩ := hrel
      by_cases hlt : k < n
      · obtain ⟨s, hs⟩ : ∃ s, K[k]? = some s := ⟨_, List.getElem?_eq_getElem (by have := HN.out; omega)⟩
        have HS := Lib.hid hs
        have HSF := Lib.hid (HF.out s (List.mem_of_getElem? hs))
        obtain ⟨b, o, y, rfl, hb1, c0, c1, c2, hy⟩ := an_cells (HR.out.below shAn hb.out) hs
        have HX := Lib.hid hy
        clear hs hy
        go_wp2_with fail
        refine (toAnswer _ (k := s) HX.out HSF.out).mono ?_
        rintro e w2 ⟨y2, rfl, hoy, hb2⟩
        obtain ⟨Ay, ny, cy, rfl⟩ := own_form hoy
        have HOY := Lib.hid hoy
        have HO2 := Lib.hid (ho.out.below hb2)
        have HB2 := Lib.hid (below_then hb.out hb2 (Nat.le_refl _))
        have HS2 := Lib.hid hb2.size
        clear hb2 hoy ho
        have HFA : Hid ((K.take k ++ List.replicate (n - k) za)[k]? = some za) := Lib.hid (by have := fill_an_at K k (by have := HN.out; omega); rwa [← HN.out] at this)
        have HFS : Hid ((K.take k ++ List.replicate (n - k) za).set k s = K.take (k + 1) ++ List.replicate (n - (k + 1)) za) := Lib.hid (by have := fill_ans K k HS.out; rwa [← HN.out] at this)
        have HPUT := Lib.hid (OwnA.put (k := s) HO2.out hb.out.size HS2.out HFA.out HOY.out)
        rw [HFS.out, setRow3] at HPUT
        obtain ⟨g, x, hA, g1, g2, g3, ⟨d0, d1, d2⟩, ⟨f0, f1, f2⟩, hzz⟩ := own_spot HO2.out HFA.out
        injection hA with hA
        injection hA with hA
        subst hA
        clear hzz HFA HFS
        go_wp2
        go_roundw
        case rel => exact ⟨k + 1, by omega, by go_num, Lib.hid (HPUT.out.1.more (Nat.le_refl _) HPUT.out.2.size), Lib.hid (below_touch HB2.out HPUT.out.2 (Nat.le_refl _) (Nat.le_refl _))⟩
        case measure => simp [intOf]; omega
      · obtain rfl : k = n := by omega
        go_wp2
        go_ret
        refine ⟨_, rfl, ?_, hb.out⟩
        have := ho.out
        rw [Nat.sub_self, List.replicate_zero, List.append_nil, List.take_of_length_le (by have := HN.out; omega)] at this
        exact this

set_option maxHeartbeats 1000000 in
theorem szAnswer (w : World) {s g : Int} {A : Option Addr} {n c : Nat} {m : Int} (hn : n ≤ 9223372036854775807) (hm : 0 ≤ m ∧ m ≤ 1048576) :
    Calls Try.prog 54 #[.agg #[.int .i64 s, .int .i64 g, .slice A n c], .int .i64 m] w (RetV w (.int .i64 (left m n))) := by
  have HX := Lib.hid (fun w' : World => szByteS w' (A := A) (n := n) (c := c) hn hm)
  have HB0 : Hid (Below w.heap.size w (w.alloc (.cells #[.int .i64 s, .int .i64 g, .slice A n c] 89))) := Lib.hid ((Below.refl _ _).alloc (Nat.le_refl _) _)
  obtain ⟨q, hq⟩ : ∃ q, q = left m n := ⟨_, rfl⟩
  have e : (if m < (n : Int) then -1 else m - n) = q := by rw [hq]; rfl
  rw [e] at HX
  rw [← hq]
  have hcase : q = -1 ∨ 0 ≤ q := by rw [hq]; unfold left; split <;> omega
  clear hq e hm
  rcases hcase with rfl | hq
  · go_enter Try.func54, Try.ntmps54
    go_wp2_with fail
    refine (HX.out _).mono ?_
    rintro e w1 ⟨rfl, hb1⟩
    have HB1 := Lib.hid (below_then HB0.out hb1 (Nat.le_refl _))
    clear hb1
    go_wp2
    go_ret
    exact ⟨rfl, HB1.out⟩
  · go_enter Try.func54, Try.ntmps54
    go_wp2_with fail
    refine (HX.out _).mono ?_
    rintro e w1 ⟨rfl, hb1⟩
    have HB1 := Lib.hid (below_then HB0.out hb1 (Nat.le_refl _))
    clear hb1
    go_wp2
    go_ret
    exact ⟨rfl, HB1.out⟩

set_option maxHeartbeats 1000000 in
theorem szAnswerS (w : World) {lo hi : Nat} {v : Value} {K : List An} {m : Int} (h : RdG 3 anS w lo hi v K) (hm : 0 ≤ m ∧ m ≤ 1048576) :
    Calls Try.prog 26 #[v, .int .i64 m] w (RetV w (.int .i64 (left m (K.length + tot anC K)))) := by
  have HR := Lib.hid h
  obtain ⟨A, c, rfl, hc, hmm⟩ := h.form
  clear h
  obtain ⟨n, hn⟩ : ∃ n, n = K.length := ⟨_, rfl⟩
  have HN := Lib.hid hn
  rw [← hn] at HR hc ⊢
  have hnm : n ≤ 9223372036854775807 := by unfold maxLen at hmm; omega
  obtain ⟨X, hX⟩ : ∃ X : Int, X = left m (n + tot anC K) := ⟨_, rfl⟩
  have HX := Lib.hid hX
  rw [← hX]
  obtain ⟨m1, m2⟩ := hm
  clear hn hc hmm hX
  by_cases hbig : m < (n : Int)
  · have e1 : Hid (X = -1) := Lib.hid (by rw [HX.out]; unfold left; rw [if_pos (by omega)])
    rw [e1.out]
    go_enter Try.func26, Try.ntmps26
    go_wp2
    go_ret
    exact ⟨rfl, Below.refl _ _⟩
  · go_enter Try.func26, Try.ntmps26
    go_wp2_with fail
    go_loopw [1, 5] (fun t i wr => ∃ (k : Nat) (z : Int), k ≤ n ∧ i = .int .i64 k ∧ t = .int .i64 z ∧ 0 ≤ z ∧ z ≤ 1048576 ∧ Hid (z = m - (n : Int) - (pre anC K k : Int)) ∧ Hid (Below w.heap.size w wr)) (fun _ i _ => n - (intOf i).toNat)
    case atStart => exact ⟨0, _, Nat.zero_le _, rfl, rfl, by omega, by omega, Lib.hid (by rw [pre_zero]; omega), Lib.hid (Below.refl _ _)⟩
    case round =>
      obtain ⟨k, z, hk, rfl, rfl, hz1, hz2, hz, hb⟩ := hrel
      by_cases hlt : k < n
      · obtain ⟨s, hs⟩ : ∃ s, K[k]? = some s := ⟨_, List.getElem?_eq_getElem (by have := HN.out; omega)⟩
        have HS := Lib.hid hs
        obtain ⟨l, hl⟩ : ∃ l, l = anC s := ⟨_, rfl⟩
        have HL := Lib.hid hl
        obtain ⟨b, o, y, rfl, hb1, c0, c1, c2, hy⟩ := an_cells (HR.out.below shAn hb.out) hs
        obtain ⟨A3, cy, rfl, hcy, hmy, hzz⟩ := hy
        clear hzz
        rw [show s.d.length = l from hl.symm] at hcy c2
        have HC : Hid (∀ w' : World, Below wr.heap.size wr w' → Calls Try.prog 54 #[.agg #[.int .i64 s.c, .int .i64 s.n, .slice A3 l cy], .int .i64 z] w' (RetV w' (.int .i64 (left z l)))) := Lib.hid (fun w' _ => szAnswer w' (by unfold maxLen at hmy; omega) ⟨hz1, hz2⟩)
        clear hcy hmy
        clear hs hl
        by_cases hq : z < (l : Int)
        · have HC2 : Hid (left z l = -1) := Lib.hid (by unfold left; rw [if_pos hq])
          rw [HC2.out] at HC
          have e1 : Hid (X = -1) := Lib.hid (by
            rw [HX.out]
            unfold left
            rw [if_pos]
            have h1 := pre_succ (c := anC) HS.out
            have h2 := pre_le anC K (k + 1)
            have := hz.out
            have := HL.out
            omega)
          clear hq HC2
          go_wp2_with fail
          refine (HC.out _ (Below.refl _ _)).mono ?_
          rintro e w1 ⟨rfl, hb1⟩
          have HB1 := Lib.hid (below_then hb.out hb1 (Nat.le_refl _))
          clear hb1
          go_wp2
          go_ret
          exact ⟨by rw [e1.out]; rfl, HB1.out⟩
        · have HC2 : Hid (left z l = z - l) := Lib.hid (by unfold left; rw [if_neg hq])
          rw [HC2.out] at HC
          have HZ2 : Hid (z - (l : Int) = m - (n : Int) - (pre anC K (k + 1) : Int)) := Lib.hid (by
            have h1 := pre_succ (c := anC) HS.out
            have := hz.out
            have := HL.out
            omega)
          obtain ⟨z2, hz2e⟩ : ∃ z2, z2 = z - (l : Int) := ⟨_, rfl⟩
          have h20 : 0 ≤ z2 := by omega
          have h21 : z2 ≤ 1048576 := by omega
          rw [← hz2e] at HC HZ2
          clear hq hz2e HC2
          go_wp2_with fail
          refine (HC.out _ (Below.refl _ _)).mono ?_
          rintro e w1 ⟨rfl, hb1⟩
          have HB1 := Lib.hid (below_then hb.out hb1 (Nat.le_refl _))
          clear hb1
          go_wp2
          go_roundw
          case rel => exact ⟨k + 1, z2, by omega, by go_num, rfl, h20, h21, HZ2, HB1⟩
          case measure => simp [intOf]; omega
      · obtain rfl : k = n := by omega
        have e1 : Hid (X = z) := Lib.hid (by
          have h1 : pre anC K k = tot anC K := by unfold tot; rw [← HN.out]
          have := hz.out
          rw [HX.out]
          unfold left
          rw [if_neg (by omega)]
          omega)
        go_wp2
        go_ret
        exact ⟨by rw [e1.out]; rfl, hb.out⟩

set_option maxHeartbeats 1000000 in
theorem eqAnswer_same (w : World) {k : An} {la ha lb hb : Nat} {y y' : Value} (hy : Rd w la ha y k.d) (hy' : Rd w lb hb y' k.d) :
    Calls Try.prog 60 #[.agg #[.int .i64 k.c, .int .i64 k.n, y], .agg #[.int .i64 k.c, .int .i64 k.n, y']] w (RetV w (.bool true)) := by
  have HY := Lib.hid (fun (w1 : World) (hb : Below w.heap.size w w1) => by have := eqByteS w1 (hy.below hb) (hy'.below hb); rwa [decide_self] at this)
  obtain ⟨B, l, e, rfl⟩ := rd_form hy
  obtain ⟨B', l', e', rfl⟩ := rd_form hy'
  obtain ⟨s, g, d⟩ := k
  dsimp only at HY ⊢
  clear hy hy'
  have HB : Hid (Below w.heap.size w ((w.alloc (.cells #[.int .i64 s, .int .i64 g, .slice B l e] 91)).alloc (.cells #[.int .i64 s, .int .i64 g, .slice B' l' e'] 91))) := Lib.hid (((Below.refl _ _).alloc (Nat.le_refl _) _).alloc (by simp) _)
  go_enter Try.func60, Try.ntmps60
  go_wp2_with fail
  refine (HY.out _ HB.out).mono ?_
  rintro e w1 ⟨rfl, hb1⟩
  have HB1 := Lib.hid (below_then HB.out hb1 (Nat.le_refl _))
  clear hb1
  go_wp2
  go_ret
  exact ⟨rfl, HB1.out⟩

/-- Two rows of answers, and two of their answers. -/
structure TwN (w0 : World) (va vb y y' : Value) (K : List An) (s : An) (wr : World) : Prop where
  t : TwoG 3 anS w0 va vb K wr
  x : Rd wr 0 wr.heap.size y s.d
  x2 : Rd wr 0 wr.heap.size y' s.d
theorem TwN.step {w0 wr w2 : World} {va vb y y' : Value} {K : List An} {s : An} (h : Hid (TwN w0 va vb y y' K s wr)) (hb : Below wr.heap.size wr w2) : Hid (TwN w0 va vb y y' K s w2) :=
  Lib.hid ⟨(TwoG.step shAn (Lib.hid h.out.t) hb).out, rd_all (h.out.x.below hb), rd_all (h.out.x2.below hb)⟩

theorem TwN.call {w0 wr : World} {va vb y y' : Value} {K : List An} {s : An} (h : Hid (TwN w0 va vb y y' K s wr)) :
    Calls Try.prog 60 #[.agg #[.int .i64 s.c, .int .i64 s.n, y], .agg #[.int .i64 s.c, .int .i64 s.n, y']] wr (RetV wr (.bool true)) :=
  eqAnswer_same wr (k := s) h.out.x h.out.x2

set_option maxHeartbeats 2000000 in
theorem eqAnswerS_same (w : World) {la ha lb hb : Nat} {va vb : Value} {K : List An} (hA : RdG 3 anS w la ha va K) (hB : RdG 3 anS w lb hb vb K) :
    Calls Try.prog 31 #[va, vb] w (RetV w (.bool true)) := by
  have HT : Hid (TwoG 3 anS w va vb K w) := Lib.hid ⟨hA.all shAn, hB.all shAn, Below.refl _ _⟩
  obtain ⟨A, ca, rfl, hca, hma⟩ := hA.form
  obtain ⟨B, cb, rfl, hcb, hmb⟩ := hB.form
  clear hA hB
  obtain ⟨n, hn⟩ : ∃ n, n = K.length := ⟨_, rfl⟩
  have HN := Lib.hid hn
  rw [← hn] at HT hca hcb ⊢
  have hnm : n ≤ 9223372036854775807 := by unfold maxLen at hma; omega
  clear hn hma hmb hca hcb
  go_enter Try.func31, Try.ntmps31
  go_wp2_with fail
  go_loopw [5] (fun i wr => ∃ k : Nat, k ≤ n ∧ i = .int .i64 k ∧ Hid (TwoG 3 anS w (.slice A n ca) (.slice B n cb) K wr)) (fun i _ => n - (intOf i).toNat)
  case atStart => exact ⟨0, Nat.zero_le _, rfl, HT⟩
  case round =>
    obtain ⟨k, hk, rfl, ho⟩ := hrel
    clear HT
    by_cases hlt : k < n
    · obtain ⟨s, hs⟩ : ∃ s, K[k]? = some s := ⟨_, List.getElem?_eq_getElem (by have := HN.out; omega)⟩
      obtain ⟨b1, o1, vx, rfl, hb1, x0, x1, x2, hx⟩ := an_cells ho.out.a hs
      obtain ⟨b2, o2, vz, rfl, hb2, y0, y1, y2, hz⟩ := an_cells ho.out.b hs
      obtain ⟨Ax, nx, cx, rfl⟩ := rd_form hx
      obtain ⟨Az, nz, cz, rfl⟩ := rd_form hz
      have HW : Hid (TwN w (.slice (some ⟨b1, o1, none⟩) n ca) (.slice (some ⟨b2, o2, none⟩) n cb) (.slice Ax nx cx) (.slice Az nz cz) K s wr) := Lib.hid ⟨ho.out, hx, hz⟩
      have HCL : Hid (∀ w2 : World, Below wr.heap.size wr w2 → w2.cell? ⟨b1, o1 + k * 3, none⟩ = some (.int .i64 s.c) ∧ w2.cell? ⟨b1, o1 + k * 3 + 1, none⟩ = some (.int .i64 s.n) ∧ w2.cell? ⟨b1, o1 + k * 3 + 2, none⟩ = some (.slice Ax nx cx) ∧ w2.cell? ⟨b2, o2 + k * 3, none⟩ = some (.int .i64 s.c) ∧ w2.cell? ⟨b2, o2 + k * 3 + 1, none⟩ = some (.int .i64 s.n) ∧ w2.cell? ⟨b2, o2 + k * 3 + 2, none⟩ = some (.slice Az nz cz) ∧ Below wr.heap.size wr w2 ∧ Hid (TwN w (.slice (some ⟨b1, o1, none⟩) n ca) (.slice (some ⟨b2, o2, none⟩) n cb) (.slice Ax nx cx) (.slice Az nz cz) K s w2)) := Lib.hid (fun w2 hb =>
        ⟨(hb.cell hb1).trans x0, (hb.cell hb1).trans x1, (hb.cell hb1).trans x2, (hb.cell hb2).trans y0, (hb.cell hb2).trans y1, (hb.cell hb2).trans y2, hb, TwN.step HW hb⟩)
      have huc := HCL.out wr (Below.refl _ _)
      clear hs hx hz ho
      go_wp2_with fail
      go_region_held3 (fun w2 => w2.cell? ⟨b1, o1 + k * 3, none⟩ = some (.int .i64 s.c) ∧ w2.cell? ⟨b1, o1 + k * 3 + 1, none⟩ = some (.int .i64 s.n) ∧ w2.cell? ⟨b1, o1 + k * 3 + 2, none⟩ = some (.slice Ax nx cx) ∧ w2.cell? ⟨b2, o2 + k * 3, none⟩ = some (.int .i64 s.c) ∧ w2.cell? ⟨b2, o2 + k * 3 + 1, none⟩ = some (.int .i64 s.n) ∧ w2.cell? ⟨b2, o2 + k * 3 + 2, none⟩ = some (.slice Az nz cz) ∧ Below wr.heap.size wr w2 ∧ Hid (TwN w (.slice (some ⟨b1, o1, none⟩) n ca) (.slice (some ⟨b2, o2, none⟩) n cb) (.slice Ax nx cx) (.slice Az nz cz) K s w2))
        (first | exact huc | (go_split_ands; exact HCL.out _ (below_then (by assumption) hb9 (Nat.le_refl _))) | (go_split_ands; exact HCL.out _ (below_then (by assumption) (below_drew _) (Nat.le_refl _))) | go_keep)
        ((go_at_call 60; go_split_ands; refine (TwN.call (by assumption : Hid (TwN w (.slice (some ⟨b1, o1, none⟩) n ca) (.slice (some ⟨b2, o2, none⟩) n cb) (.slice Ax nx cx) (.slice Az nz cz) K s _))).mono ?_; rintro e w9 ⟨rfl, hb9⟩))
      have HWE : Hid (TwN w (.slice (some ⟨b1, o1, none⟩) n ca) (.slice (some ⟨b2, o2, none⟩) n cb) (.slice Ax nx cx) (.slice Az nz cz) K s w9) := by (go_split_ands; assumption)
      go_wp2
      go_roundw
      case rel => exact ⟨k + 1, by omega, by go_num, Lib.hid HWE.out.t⟩
      case measure => simp [intOf]; omega
    · obtain rfl : k = n := by omega
      go_wp2
      go_ret
      exact ⟨rfl, ho.out.below⟩

theorem anMarks_length (s : Nat) (A : List An) : (anMarks s A).length = A.length := by
  induction A generalizing s with
  | nil => rfl
  | cons a A ih => simp [anMarks, ih]
theorem anMarks_snoc (s : Nat) (A : List An) (a : An) : anMarks s (A ++ [a]) = anMarks s A ++ [⟨((s + anN A : Nat) : Int), ((s + anN A + 1 : Nat) : Int), marks (s + anN A + 2) a.d.length⟩] := by
  induction A generalizing s with
  | nil => simp [anMarks, anN, tot, pre]
  | cons b A ih =>
    have e : anN (b :: A) = 2 + b.d.length + anN A := by
      simp [anN, tot, pre, anC]
      omega
    rw [List.cons_append]
    unfold anMarks
    rw [ih, e, List.cons_append]
    simp only [Nat.add_assoc]
theorem anN_take {K : List An} {k : Nat} (h : k ≤ K.length) : anN (K.take k) = 2 * k + pre anC K k := by
  unfold anN tot pre
  rw [List.length_take, Nat.min_eq_left h, List.take_take, Nat.min_self]
theorem anMarks_step {K : List An} {k s : Nat} {a : An} (h : K[k]? = some a) :
    (anMarks s (K.take k) ++ K.drop k).set k ⟨((s + (2 * k + pre anC K k) : Nat) : Int), ((s + (2 * k + pre anC K k) + 1 : Nat) : Int), marks (s + (2 * k + pre anC K k) + 2) a.d.length⟩ = anMarks s (K.take (k + 1)) ++ K.drop (k + 1) := by
  obtain ⟨h1, e⟩ := List.getElem?_eq_some_iff.1 h
  have e1 : (anMarks s (K.take k)).length = k := by rw [anMarks_length, List.length_take]; omega
  rw [List.set_append_right _ _ (by omega), e1, Nat.sub_self, List.drop_eq_getElem_cons h1, List.set_cons_zero, List.take_succ_eq_append_getElem h1, anMarks_snoc, anN_take (by omega), List.append_assoc, e]
  rfl
theorem anMarks_at {K : List An} {k s : Nat} {a : An} (h : K[k]? = some a) : (anMarks s (K.take k) ++ K.drop k)[k]? = some a := by
  obtain ⟨h1, e⟩ := List.getElem?_eq_some_iff.1 h
  have e1 : (anMarks s (K.take k)).length = k := by rw [anMarks_length, List.length_take]; omega
  rw [List.getElem?_append_right (by omega), e1, Nat.sub_self, List.getElem?_drop, Nat.add_zero, h]
theorem anMarks_get {K : List An} {k s : Nat} {a : An} (h : K[k]? = some a) :
    (anMarks s K)[k]? = some ⟨((s + (2 * k + pre anC K k) : Nat) : Int), ((s + (2 * k + pre anC K k) + 1 : Nat) : Int), marks (s + (2 * k + pre anC K k) + 2) a.d.length⟩ := by
  obtain ⟨h1, e⟩ := List.getElem?_eq_some_iff.1 h
  induction K generalizing k s with
  | nil => simp at h
  | cons b K ih =>
    cases k with
    | zero =>
      simp at h
      subst h
      simp [anMarks, pre]
    | succ k =>
      have h2 : K[k]? = some a := by simpa using h
      have e2 : pre anC (b :: K) (k + 1) = b.d.length + pre anC K k := by simp [pre, anC]
      unfold anMarks
      rw [List.getElem?_cons_succ, ih h2 (List.getElem?_eq_some_iff.1 h2).1 (List.getElem?_eq_some_iff.1 h2).2, e2]
      rw [show s + 2 + b.d.length + (2 * k + pre anC K k) = s + (2 * (k + 1) + (b.d.length + pre anC K k)) by omega]

set_option maxHeartbeats 2000000 in
theorem markAnswerS (w : World) {lo hi : Nat} {v : Value} {K : List An} {s : Nat} (h : OwnA w lo hi v K) (hK : K.length + tot anC K ≤ 1048576) (hs : s ≤ 16777216) :
    Calls Try.prog 34 #[v, .int .i64 s] w (fun e w' => e = .returned (.int .i64 ((s + anN K : Nat) : Int)) ∧ OwnA w' lo hi v (anMarks s K) ∧ OnlyIn lo hi w w') := by
  have HO := Lib.hid h
  obtain ⟨A, c, rfl, hc, hm⟩ := h.rd.form
  clear h hm
  obtain ⟨n, hn⟩ : ∃ n, n = K.length := ⟨_, rfl⟩
  have HN := Lib.hid hn
  have hnt : n + tot anC K ≤ 1048576 := by rw [hn]; exact hK
  have HT := Lib.hid hnt
  have hn2 : n ≤ 1048576 := by omega
  rw [← hn] at HO hc ⊢
  clear hn hc hK hnt
  go_enter Try.func34, Try.ntmps34
  go_wp2_with fail
  go_loopw [1, 5] (fun t i wr => ∃ (k m : Nat), k ≤ n ∧ i = .int .i64 k ∧ t = .int .i64 (m : Int) ∧ m ≤ 67108864 ∧ Hid (m = s + (2 * k + pre anC K k)) ∧ Hid (OwnA wr lo hi (.slice A n c) (anMarks s (K.take k) ++ K.drop k)) ∧ Hid (OnlyIn lo hi w wr))
    (fun _ i _ => n - (intOf i).toNat)
  case atStart => exact ⟨0, s, Nat.zero_le _, rfl, rfl, by omega, Lib.hid (by rw [pre_zero]; omega), HO, Lib.hid (OnlyIn.refl _ _ _)⟩
  case round =>
    obtain ⟨k, m, hk, rfl, rfl, hm4, hme, ho, hb⟩ := hrel
    by_cases hlt : k < n
    · obtain ⟨a, ha⟩ : ∃ s, K[k]? = some s := ⟨_, List.getElem?_eq_getElem (by have := HN.out; omega)⟩
      have HA := Lib.hid ha
      have HS := Lib.hid (anMarks_at (s := s) ha)
      obtain ⟨g, x, hA, g1, g2, g3, ⟨c0, c1, c2⟩, ⟨f0, f1, f2⟩, hox, hzz⟩ := own_spot ho.out HS.out
      subst hA
      clear hzz f2
      obtain ⟨Ax, nx, cx, rfl⟩ := own_form hox
      have HPS : Hid (pre anC K (k + 1) = pre anC K k + a.d.length) := Lib.hid (pre_succ (c := anC) ha)
      have HPL := Lib.hid (pre_le anC K (k + 1))
      have HL : Hid (a.d.length ≤ 1048576) := Lib.hid (by have := HPS.out; have := HPL.out; have := HT.out; omega)
      have HF : Hid (OwnA ((wr.setCell ⟨g, k * 3, none⟩ (.int .i64 (m : Int))).setCell ⟨g, k * 3 + 1, none⟩ (.int .i64 ((m : Int) + 1))) lo hi (.slice (some ⟨g, 0, none⟩) n c) (((anMarks s (K.take k) ++ K.drop k).set k ⟨(m : Int), a.n, a.d⟩).set k ⟨(m : Int), (m : Int) + 1, a.d⟩) ∧ OnlyIn lo hi wr ((wr.setCell ⟨g, k * 3, none⟩ (.int .i64 (m : Int))).setCell ⟨g, k * 3 + 1, none⟩ (.int .i64 ((m : Int) + 1)))) := Lib.hid (by
        obtain ⟨p1, p2⟩ := flag (q := k * 3) (j := 0) (k := ⟨(m : Int), a.n, a.d⟩) (u := .int .i64 (m : Int)) ho.out HS.out (by omega) rfl (fun _ => rfl) rfl
        obtain ⟨q1, q2⟩ := flag (q := k * 3 + 1) (j := 1) (k0 := ⟨(m : Int), a.n, a.d⟩) (k := ⟨(m : Int), (m : Int) + 1, a.d⟩) (u := .int .i64 ((m : Int) + 1)) p1 (by rw [List.getElem?_set_self (by exact (List.getElem?_eq_some_iff.1 HS.out).1)]) (by omega) rfl (fun _ => rfl) rfl
        exact ⟨q1, p2.trans q2⟩)
      have HG : Hid (∃ p q, Own ((wr.setCell ⟨g, k * 3, none⟩ (.int .i64 (m : Int))).setCell ⟨g, k * 3 + 1, none⟩ (.int .i64 ((m : Int) + 1))) p q (.slice Ax nx cx) a.d ∧ ∀ (w' : World) (L : List Int), Own w' p q (.slice Ax nx cx) L → OnlyIn p q ((wr.setCell ⟨g, k * 3, none⟩ (.int .i64 (m : Int))).setCell ⟨g, k * 3 + 1, none⟩ (.int .i64 ((m : Int) + 1))) w' → OwnA w' lo hi (.slice (some ⟨g, 0, none⟩) n c) ((((anMarks s (K.take k) ++ K.drop k).set k ⟨(m : Int), a.n, a.d⟩).set k ⟨(m : Int), (m : Int) + 1, a.d⟩).set k ⟨(m : Int), (m : Int) + 1, L⟩) ∧ OnlyIn lo hi wr w') := Lib.hid (by
        obtain ⟨p1, p2⟩ := HF.out
        have hgs : (((anMarks s (K.take k) ++ K.drop k).set k ⟨(m : Int), a.n, a.d⟩).set k ⟨(m : Int), (m : Int) + 1, a.d⟩)[k]? = some ⟨(m : Int), (m : Int) + 1, a.d⟩ := by
          rw [List.getElem?_set_self (by rw [List.length_set]; exact (List.getElem?_eq_some_iff.1 HS.out).1)]
        obtain ⟨g', x', hA, _, _, _, ⟨_, _, d2⟩, _, ho', hall⟩ := own_spot p1 hgs
        injection hA with hA
        injection hA with hA
        subst hA
        have hcx : x' = .slice Ax nx cx := by
          have e1 : ((wr.setCell ⟨g, k * 3, none⟩ (.int .i64 (m : Int))).setCell ⟨g, k * 3 + 1, none⟩ (.int .i64 ((m : Int) + 1))).cell? ⟨g, k * 3 + 2, none⟩ = wr.cell? ⟨g, k * 3 + 2, none⟩ := by
            exact (World.cell?_setCell_other _ ⟨g, k * 3 + 1, none⟩ ⟨g, k * 3 + 2, none⟩ _ (by simp)).trans (World.cell?_setCell_other _ ⟨g, k * 3, none⟩ ⟨g, k * 3 + 2, none⟩ _ (by simp))
          rw [e1, c2] at d2
          injection d2 with d2
          exact d2.symm
        subst hcx
        obtain ⟨p, q, hn1, hn2⟩ := own_narrow ho'
        refine ⟨p, q, hn1, fun w' L hw ht => ?_⟩
        obtain ⟨r1, r2⟩ := hall w' L p q hw ht hn2
        exact ⟨r1, p2.trans r2⟩)
      have HMK : Hid (∀ (w2 : World) (p q : Nat), Own w2 p q (.slice Ax nx cx) a.d → Calls Try.prog 63 #[.slice Ax nx cx, .int .i64 ((m : Int) + 1 + 1)] w2 (fun e w' => e = .returned (.int .i64 ((m + 2 + a.d.length : Nat) : Int)) ∧ Own w' p q (.slice Ax nx cx) (marks (m + 2) a.d.length) ∧ OnlyIn p q w2 w')) := Lib.hid (fun w2 p q ho => by
        have := markByteS w2 (s := m + 2) ho HL.out (by omega)
        rwa [show ((m + 2 : Nat) : Int) = (m : Int) + 1 + 1 by omega] at this)
      obtain ⟨m2, hm2⟩ : ∃ m2, m2 = m + 2 + a.d.length := ⟨_, rfl⟩
      have HM2 : Hid (m2 = s + (2 * (k + 1) + pre anC K (k + 1))) := Lib.hid (by have := hme.out; have := HPS.out; omega)
      have hm24 : m2 ≤ 67108864 := by have := HM2.out; have := HPL.out; have := HT.out; omega
      rw [← hm2] at HMK
      clear hm2 ha hox ho HF
      go_wp2_with fail
      obtain ⟨p, q, hn1, hn2⟩ := HG.out
      refine (HMK.out _ p q hn1).mono ?_
      rintro e w2 ⟨rfl, ho2, ht2⟩
      obtain ⟨r1, r2⟩ := hn2 w2 _ ho2 ht2
      rw [List.set_set, List.set_set, hme.out] at r1
      have HST := anMarks_step (s := s) HA.out
      rw [show ((s + (2 * k + pre anC K k) + 1 : Nat) : Int) = ((s + (2 * k + pre anC K k) : Nat) : Int) + 1 by omega] at HST
      rw [HST] at r1
      have HR1 := Lib.hid r1
      have HR2 := Lib.hid (hb.out.trans r2)
      clear r1 r2 ho2 ht2 hn1 hn2 HST
      go_wp2
      go_roundw
      case rel => exact ⟨k + 1, m2, by omega, by go_num, rfl, hm24, HM2, HR1, HR2⟩
      case measure => simp [intOf]; omega
    · obtain rfl : k = n := by omega
      have HM : Hid (m = s + anN K) := Lib.hid (by
        have h1 : pre anC K k = tot anC K := by unfold tot; rw [← HN.out]
        have := hme.out
        have := HN.out
        unfold anN
        omega)
      go_wp2
      go_ret
      refine ⟨?_, ?_, hb.out⟩
      · rw [← HM.out]
        rfl
      · have := ho.out
        rwa [List.drop_eq_nil_of_le (by have := HN.out; omega), List.append_nil, List.take_of_length_le (by have := HN.out; omega)] at this

set_option maxHeartbeats 1000000 in
theorem heldAnswerS (w : World) {lo hi : Nat} {v : Value} {K : List An} {s : Nat} (h : RdG 3 anS w lo hi v (anMarks s K)) (hK : K.length + tot anC K ≤ 1048576) (hs : s ≤ 16777216) :
    Calls Try.prog 35 #[v, .int .i64 s] w (RetV w (.int .i64 ((s + anN K : Nat) : Int))) := by
  have HR := Lib.hid h
  obtain ⟨A, c, rfl, hc, hm⟩ := h.form
  clear h hm
  rw [anMarks_length] at HR hc ⊢
  obtain ⟨n, hn⟩ : ∃ n, n = K.length := ⟨_, rfl⟩
  have HN := Lib.hid hn
  have hnt : n + tot anC K ≤ 1048576 := by rw [hn]; exact hK
  have HT := Lib.hid hnt
  have hn2 : n ≤ 1048576 := by omega
  rw [← hn] at HR hc ⊢
  clear hn hc hK hnt
  go_enter Try.func35, Try.ntmps35
  go_wp2_with fail
  go_loopw [1, 5] (fun t i wr => ∃ (k m : Nat), k ≤ n ∧ i = .int .i64 k ∧ t = .int .i64 (m : Int) ∧ m ≤ 67108864 ∧ Hid (m = s + (2 * k + pre anC K k)) ∧ Hid (Below w.heap.size w wr))
    (fun _ i _ => n - (intOf i).toNat)
  case atStart => exact ⟨0, s, Nat.zero_le _, rfl, rfl, by omega, Lib.hid (by rw [pre_zero]; omega), Lib.hid (Below.refl _ _)⟩
  case round =>
    obtain ⟨k, m, hk, rfl, rfl, hm4, hme, hb⟩ := hrel
    by_cases hlt : k < n
    · obtain ⟨a, ha⟩ : ∃ s, K[k]? = some s := ⟨_, List.getElem?_eq_getElem (by have := HN.out; omega)⟩
      have hs := anMarks_get (s := s) ha
      rw [← hme.out] at hs
      obtain ⟨b, o, y, rfl, hb1, c0, c1, c2, hy⟩ := an_cells (HR.out.below shAn hb.out) hs
      dsimp only at c0 c1 hy
      rw [show ((m + 1 : Nat) : Int) = (m : Int) + 1 by omega] at c1
      obtain ⟨Ax, nx, cx, rfl⟩ := rd_form hy
      have HY := Lib.hid hy
      have HPS : Hid (pre anC K (k + 1) = pre anC K k + a.d.length) := Lib.hid (pre_succ (c := anC) ha)
      have HPL := Lib.hid (pre_le anC K (k + 1))
      have HL : Hid (a.d.length ≤ 1048576) := Lib.hid (by have := HPS.out; have := HPL.out; have := HT.out; omega)
      have HHD : Hid (Calls Try.prog 64 #[.slice Ax nx cx, .int .i64 ((m : Int) + 1 + 1)] wr (RetV wr (.int .i64 ((m + 2 + a.d.length : Nat) : Int)))) := Lib.hid (by
        have := heldByteS wr (s := m + 2) HY.out HL.out (by omega)
        rwa [show ((m + 2 : Nat) : Int) = (m : Int) + 1 + 1 by omega] at this)
      obtain ⟨m2, hm2⟩ : ∃ m2, m2 = m + 2 + a.d.length := ⟨_, rfl⟩
      have HM2 : Hid (m2 = s + (2 * (k + 1) + pre anC K (k + 1))) := Lib.hid (by have := hme.out; have := HPS.out; omega)
      have hm24 : m2 ≤ 67108864 := by have := HM2.out; have := HPL.out; have := HT.out; omega
      rw [← hm2] at HHD
      clear hm2 ha hs hy
      go_wp2_with fail
      refine (HHD.out).mono ?_
      rintro e w2 ⟨rfl, hb2⟩
      have HB2 := Lib.hid (below_then hb.out hb2 (Nat.le_refl _))
      clear hb2
      go_wp2
      go_roundw
      case rel => exact ⟨k + 1, m2, by omega, by go_num, rfl, hm24, HM2, HB2⟩
      case measure => simp [intOf]; omega
    · obtain rfl : k = n := by omega
      have HM : Hid (m = s + anN K) := Lib.hid (by
        have h1 : pre anC K k = tot anC K := by unfold tot; rw [← HN.out]
        have := hme.out
        have := HN.out
        unfold anN
        omega)
      go_wp2
      go_ret
      refine ⟨?_, hb.out⟩
      rw [← HM.out]
      rfl
end Go.Proofs.Ytmipkngikimjgaa.Ans

/-
  The draws of chapter 2, whole: a head; a floor with a head on it, and a place. What is said of them is that their numbers are of 64 bits, their bytes few.
-/
import Derived.Test.YtamgikcoknkghaaDraw2
namespace Go.Proofs.Ytamgikcoknkghaa.Cur
open Go.RowKit Go.Proofs.Ytamgikcoknkghaa.Mem Go.Proofs.Ytamgikcoknkghaa.Pure Go.Proofs.Ytamgikcoknkghaa.Help Go.Proofs.Ytamgikcoknkghaa.FloorI Go.Proofs.Ytamgikcoknkghaa.HeadI
set_option linter.unusedVariables false

/-- Some head. -/
def RetDH (w : World) (e : Ending) (w' : World) : Prop :=
  ∃ s o l r, e = .returned (.agg #[.int .i64 s, .int .i64 o, .int .i64 l, .int .i64 r]) ∧ I64 s ∧ I64 o ∧ I64 l ∧ I64 r ∧ Below w.heap.size w w'
/-- Some new row of bytes, and a number. -/
def RetFA (w : World) (e : Ending) (w' : World) : Prop :=
  ∃ v L a, e = .returned (.tuple #[v, .int .i64 a]) ∧ Own w' w.heap.size w'.heap.size v L ∧ Byt L ∧ L.length ≤ 1000 ∧ I64 a ∧ Below w.heap.size w w'

set_option maxHeartbeats 1000000 in
theorem drawHeadBytes (w : World) {v : Value} {C : List Int} (h : Rd w 0 w.heap.size v C) (hC : C.length ≤ 4096) (hb : Byt C) :
    Calls Try.prog 26 #[v] w (RetDH w) := by
  have HR : Hid (Rd (w.alloc (.cells #[.int .i64 0, .int .i64 0, .int .i64 0, .int .i64 0] 41)) 0 (w.alloc (.cells #[.int .i64 0, .int .i64 0, .int .i64 0, .int .i64 0] 41)).heap.size v C) := Lib.hid ((h.below ((Below.refl _ _).alloc (Nat.le_refl _) _)).more (Nat.le_refl _) (by simp))
  clear h
  go_enter Try.func26, Try.ntmps26
  go_wp2_with fail
  refine (l1New _ HR.out hC hb).mono ?_
  rintro e w1 ⟨g, rfl, hg, hc1, hb1⟩
  have hg' : w.heap.size < g := Nat.lt_of_lt_of_le (by simp) hg
  have HZ1 : Hid (Blk w1 w.heap.size #[.int .i64 0, .int .i64 0, .int .i64 0, .int .i64 0] 41) := Lib.hid ((Blk.new w _ _).below hb1)
  have HC1 := Lib.hid hc1
  have HB1 : Hid (Below w.heap.size w w1) := Lib.hid (((Below.refl _ _).alloc (Nat.le_refl _) _).trans (hb1.mono (by simp)))
  clear hg hc1 hb1
  go_wp2_with fail
  refine (l2DrawAny w1 HC1.out).mono ?_
  rintro e w2 ⟨s, o, l, r, rfl, is, io, il, ir, _, hc2, ht2⟩
  have HIS := Lib.hid is; have HIO := Lib.hid io; have HIL := Lib.hid il; have HIR := Lib.hid ir
  have HZ2 := Lib.hid (HZ1.out.touch ht2 (.inl hg'))
  have HB2 : Hid (Below w.heap.size w w2) := Lib.hid (below_cur HB1.out ht2 (by omega) (Nat.le_refl _))
  clear hc2 ht2 is io il ir
  obtain ⟨c0, c1, c2, c3⟩ := HZ2.out.cells4
  have f0 := HZ2.out.free 0
  have f1 := HZ2.out.free 1
  have f2 := HZ2.out.free 2
  have f3 := HZ2.out.free 3
  go_wp2
  refine bodyPost_ret (v := .agg #[.int .i64 s, .int .i64 o, .int .i64 l, .int .i64 r]) (by simp [results, Try.results26, go_sem, c0, c1, c2, c3]) rfl ?_
  exact ⟨_, _, _, _, rfl, HIS.out, HIO.out, HIL.out, HIR.out, below_put4 HB2.out (Nat.le_refl _) _ _ _ _⟩

set_option maxHeartbeats 4000000 in
theorem drawHeadAt (w : World) {v : Value} {C : List Int} (h : Rd w 0 w.heap.size v C) (hC : C.length ≤ 4096) (hb : Byt C) :
    Calls Try.prog 28 #[v] w (RetFA w) := by
  obtain ⟨i0, hi0, hz0, hz1, hz2⟩ := info_parts infoB
  have HR := Lib.hid h
  clear h
  go_enter Try.func28, Try.ntmps28
  go_wp2_with fail
  refine (l1New w HR.out hC hb).mono ?_
  rintro e w1 ⟨g, rfl, hg, hc1, hb1⟩
  have HG := Lib.hid hg
  have HC1 := Lib.hid hc1
  have HB1 := Lib.hid hb1
  clear hg hc1 hb1
  go_wp2_with fail
  refine (l2DrawAny w1 HC1.out).mono ?_
  rintro e w2 ⟨s, o, l, r, rfl, is, _, _, _, _, hc2, ht2⟩
  obtain ⟨is1, is2⟩ := is
  have HB2 : Hid (Below w.heap.size w w2) := Lib.hid (below_cur HB1.out ht2 HG.out (Nat.le_refl _))
  have HC2 := Lib.hid hc2
  have hn2 : Below w2.heap.size w2 (w2.alloc (.cells #[.int .i64 s, .int .i64 o, .int .i64 l, .int .i64 r] 41)) := (Below.refl _ _).alloc (Nat.le_refl _) _
  have HN2 := Lib.hid hn2
  have HGK : Hid (g < w2.heap.size) := Lib.hid hc2.lt
  clear hc2 ht2 hn2
  go_wp2_with fail
  refine (l1Below _ (HC2.out.below HN2.out) (n := 5) (by unfold I64; omega)).mono ?_
  rintro e w3 ⟨a, rfl, ⟨a1, a2, _⟩, hc3, ht3⟩
  have a3 : a < 5 := a2 (by omega)
  have HC3 := Lib.hid hc3
  have HB3 : Hid (Below w.heap.size w w3) := Lib.hid (below_cur (below_then HB2.out HN2.out (Nat.le_refl _)) ht3 HG.out (Nat.le_refl _))
  have HY3 : Hid (Blk w3 w2.heap.size #[.int .i64 s, .int .i64 o, .int .i64 l, .int .i64 r] 41) := Lib.hid ((Blk.new w2 _ _).touch ht3 (.inr HGK.out))
  clear hc3 ht3 a2
  obtain ⟨c0, _, _, _⟩ := HY3.out.cells4
  go_wp2_with fail
  refine (l1Min w3).mono ?_
  rintro e w4 ⟨rfl, rfl⟩
  go_wp2_with fail
  refine (l1Max w3).mono ?_
  rintro e w4 ⟨rfl, rfl⟩
  obtain ⟨m, hm⟩ : ∃ m, m = max (min s 900) 0 := ⟨_, rfl⟩
  have m1 : 0 ≤ m := by omega
  have m2 : m ≤ 900 := by omega
  rw [← hm]
  clear hm c0
  go_wp2_with fail
  refine (l1From w3 HC3.out (a := -1) (b := 4) (by omega) (by omega)).mono ?_
  rintro e w4 ⟨x, rfl, ⟨x1, x2⟩, hc4, ht4⟩
  have HC4 := Lib.hid hc4
  have HB4 : Hid (Below w.heap.size w w4) := Lib.hid (below_cur HB3.out ht4 HG.out (Nat.le_refl _))
  have HY4 := Lib.hid (HY3.out.touch ht4 (.inr HGK.out))
  clear hc4 ht4
  obtain ⟨n, hn⟩ : ∃ n : Nat, a + m + x + 1 = n := ⟨(a + m + x + 1).toNat, by omega⟩
  have hn2 : n ≤ 909 := by omega
  go_wp2_with (at_make; refine wpList_make_full _ rfl _ _ 22 rfl w4.heap.size 5 i0 (.int .u8 0) 1 Try.underlying22 hi0 hz0 hz1 .i64 .i64 _ _ n rfl rfl rfl rfl ?_ ?_ ?_ ?_)
  · rw [hz2]; omega
  · unfold maxLen; omega
  · exact Nat.le_refl _
  intro w5 hown hgr
  have hb5 : Below w4.heap.size w4 w5 := (Below.refl _ _).grown hgr (Nat.le_refl _) (fun k hk => by cases hk)
  have HB5 := Lib.hid hb5
  have HO5 : Hid (Own w5 w4.heap.size w5.heap.size (.slice (some ⟨w4.heap.size, 0, none⟩) n n) (List.replicate n 0)) :=
    own_of_row hown (by simp) ((toList_madeCells_one _ _).trans (by simp))
  clear hown hgr hb5 hn
  obtain ⟨c0, c1, c2, c3⟩ := (HY4.out.below HB5.out).cells4
  go_wp2_with fail
  refine (HeadS.headBytes w5).mono ?_
  rintro e w6 ⟨v6, rfl, ho6, hb6⟩
  have HO6 := Lib.hid ho6
  have HB6 := Lib.hid hb6
  have hl6 := headL_length s o l r
  have HY6 := Lib.hid (byt_headL s o l r)
  obtain ⟨M, hM⟩ : ∃ M, M = headL s o l r := ⟨_, rfl⟩
  rw [← hM] at HO6 hl6 HY6
  clear hM ho6 hb6 c0 c1 c2 c3
  go_wp2_with fail
  have hl := FloorS.laid w6 (HO5.out.below HB6.out).rd HO6.out.rd (Nat.le_refl _) (by simp; omega) (by omega) (a := a) (by unfold I64; omega)
  have hlen := laidL_length (List.replicate n 0) a M
  have hlb : Byt (laidL (List.replicate n 0) a M) := byt_laidL (byt_zeros n) HY6.out
  rw [List.length_replicate] at hlen
  obtain ⟨L, hL⟩ : ∃ L, L = laidL (List.replicate n 0) a M := ⟨_, rfl⟩
  rw [← hL] at hl hlen hlb
  have HL := Lib.hid hl
  clear hl hL hl6
  refine HL.out.mono ?_
  rintro e w7 ⟨v7, rfl, ho7, hb7⟩
  have HLB := Lib.hid hlb
  have HB7 : Hid (Below w.heap.size w w7) := Lib.hid (below_then (below_then (below_then HB4.out HB5.out (Nat.le_refl _)) HB6.out (Nat.le_refl _)) hb7 (Nat.le_refl _))
  have HC7 := Lib.hid (((HC4.out.below HB5.out).below HB6.out).below hb7)
  have HGL : Hid (g + 1 ≤ w6.heap.size) := Lib.hid ((HC4.out.below HB5.out).below HB6.out).lt
  have HWL : Hid (w.heap.size ≤ w6.heap.size) := Lib.hid (Nat.le_trans HB4.out.size (Nat.le_trans HB5.out.size HB6.out.size))
  have HO7 := Lib.hid ho7
  obtain ⟨A7, c7, rfl, _, _, _⟩ := ho7.rd
  rw [hlen] at HO7 ⊢
  have HLN := Lib.hid hlen
  clear ho7 hb7 hlen hlb HL HC4 HO5 HO6 HB6 HB5
  obtain ⟨wt, hwt⟩ : ∃ wt, wt = w7.heap.size := ⟨_, rfl⟩
  rw [← hwt] at HO7
  have HWT : Hid (wt ≤ w7.heap.size) := Lib.hid (Nat.le_of_eq hwt)
  clear hwt
  go_wp2_with fail
  refine (l1Once w7 HC7.out (n := 5) (by unfold I64; omega)).mono ?_
  rintro e w8 ⟨b, rfl, hc8, ht8⟩
  have HC8 := Lib.hid hc8
  have HB8 : Hid (Below w.heap.size w w8) := Lib.hid (below_cur HB7.out ht8 HG.out (Nat.le_refl _))
  have HO8 := Lib.hid (HO7.out.touch ht8 (.inr HGL.out))
  have HWT8 : Hid (wt ≤ w8.heap.size) := Lib.hid (Nat.le_trans HWT.out ht8.size)
  clear hc8 ht8 HC7 HB7 HO7
  cases b
  · go_wp2_with fail
    refine (l1Once w8 (HC8.out) (n := 10) (by unfold I64; omega)).mono ?_
    rintro e w20 ⟨b, rfl, hc20, ht20⟩
    have HC20 := Lib.hid hc20
    have HB20 : Hid (Below w.heap.size w w20) := Lib.hid (below_cur HB8.out ht20 HG.out (Nat.le_refl _))
    have HO20 := Lib.hid (HO8.out.touch ht20 (.inr HGL.out))
    have HWT20 : Hid (wt ≤ w20.heap.size) := Lib.hid (Nat.le_trans HWT8.out ht20.size)
    clear hc20 ht20
    cases b
    · go_wp2
      go_ret2
      exact ⟨_, L, a, rfl, HO20.out.more HWL.out HWT20.out, HLB.out, by have := HLN.out; omega, by unfold I64; omega, HB20.out⟩
    · go_wp2_with fail
      refine (l1DrawPlace w20 HC20.out (m := (n : Int)) (by omega) (by omega)).mono ?_
      rintro e w21 ⟨y, rfl, hy, hc21, ht21⟩
      have HY := Lib.hid hy
      have HT21 := Lib.hid ht21
      clear hy hc21 ht21
      go_wp2
      go_ret2
      exact ⟨_, L, y, rfl, (HO20.out.touch HT21.out (.inr HGL.out)).more HWL.out (Nat.le_trans HWT20.out HT21.out.size), HLB.out, by have := HLN.out; omega, HY.out, below_cur HB20.out HT21.out HG.out (Nat.le_refl _)⟩
  · by_cases h0 : n = 0
    · have hd : True := trivial
      subst h0
      go_wp2_with fail
      refine (l1Once w8 (HC8.out) (n := 10) (by unfold I64; omega)).mono ?_
      rintro e w20 ⟨b, rfl, hc20, ht20⟩
      have HC20 := Lib.hid hc20
      have HB20 : Hid (Below w.heap.size w w20) := Lib.hid (below_cur HB8.out ht20 HG.out (Nat.le_refl _))
      have HO20 := Lib.hid (HO8.out.touch ht20 (.inr HGL.out))
      have HWT20 : Hid (wt ≤ w20.heap.size) := Lib.hid (Nat.le_trans HWT8.out ht20.size)
      clear hc20 ht20
      cases b
      · go_wp2
        go_ret2
        exact ⟨_, L, a, rfl, HO20.out.more HWL.out HWT20.out, HLB.out, by have := HLN.out; omega, by unfold I64; omega, HB20.out⟩
      · go_wp2_with fail
        refine (l1DrawPlace w20 HC20.out (m := ((0 : Nat) : Int)) (by omega) (by omega)).mono ?_
        rintro e w21 ⟨y, rfl, hy, hc21, ht21⟩
        have HY := Lib.hid hy
        have HT21 := Lib.hid ht21
        clear hy hc21 ht21
        go_wp2
        go_ret2
        exact ⟨_, L, y, rfl, (HO20.out.touch HT21.out (.inr HGL.out)).more HWL.out (Nat.le_trans HWT20.out HT21.out.size), HLB.out, by have := HLN.out; omega, HY.out, below_cur HB20.out HT21.out HG.out (Nat.le_refl _)⟩
    · have h1 : 0 < n := by omega
      clear h0
      go_wp2_with fail
      refine (l1Below w8 HC8.out (n := (n : Int)) (by unfold I64; omega)).mono ?_
      rintro e w9 ⟨q, rfl, ⟨q1, q2, _⟩, hc9, ht9⟩
      obtain ⟨k, rfl⟩ : ∃ k : Nat, q = k := ⟨q.toNat, by omega⟩
      have hk : k < n := by have := q2 (by omega); omega
      have HC9 := Lib.hid hc9
      have HB9 : Hid (Below w.heap.size w w9) := Lib.hid (below_cur HB8.out ht9 HG.out (Nat.le_refl _))
      have HO9 := Lib.hid (HO8.out.touch ht9 (.inr HGL.out))
      have HWT9 : Hid (wt ≤ w9.heap.size) := Lib.hid (Nat.le_trans HWT8.out ht9.size)
      clear hc9 ht9 q1 q2
      go_wp2_with fail
      refine (l1Below w9 HC9.out (n := 256) (by unfold I64; omega)).mono ?_
      rintro e w10 ⟨z, rfl, ⟨z1, z2, _⟩, hc10, ht10⟩
      have hz : z < 256 := z2 (by omega)
      have HC10 := Lib.hid hc10
      have HB10 : Hid (Below w.heap.size w w10) := Lib.hid (below_cur HB9.out ht10 HG.out (Nat.le_refl _))
      have HO10 := Lib.hid (HO9.out.touch ht10 (.inr HGL.out))
      have HWT10 : Hid (wt ≤ w10.heap.size) := Lib.hid (Nat.le_trans HWT9.out ht10.size)
      clear hc10 ht10 z2
      obtain ⟨g', hg', hg1, hg2, hgc, hgf, hgs⟩ := HO10.out.put (k := k) (by have := HLN.out; omega)
      subst hg'
      obtain ⟨y, hgc'⟩ : ∃ y, w10.cell? ⟨g', k, none⟩ = some (.int .u8 y) := ⟨_, hgc⟩
      obtain ⟨hs1, hs2⟩ := hgs z
      have HO11 := Lib.hid hs1
      have HT11 := Lib.hid hs2
      have HC11 := Lib.hid (HC10.out.touch HT11.out HGL.out)
      have HB11 : Hid (Below w.heap.size w (w10.setCell ⟨g', k, none⟩ (.int .u8 z))) := Lib.hid (below_touch HB10.out HT11.out HWL.out (Nat.le_refl _))
      have HWT11 : Hid (wt ≤ (w10.setCell ⟨g', k, none⟩ (.int .u8 z)).heap.size) := Lib.hid (Nat.le_trans HWT10.out HT11.out.size)
      have HBY : Hid (Byt (L.set k z)) := Lib.hid (byt_set HLB.out k (by omega))
      clear hgs hs1 hs2 hgc
      go_wp2_with fail
      refine (l1Once _ (HC11.out) (n := 10) (by unfold I64; omega)).mono ?_
      rintro e w20 ⟨b, rfl, hc20, ht20⟩
      have HC20 := Lib.hid hc20
      have HB20 : Hid (Below w.heap.size w w20) := Lib.hid (below_cur HB11.out ht20 HG.out (Nat.le_refl _))
      have HO20 := Lib.hid (HO11.out.touch ht20 (.inr HGL.out))
      have HWT20 : Hid (wt ≤ w20.heap.size) := Lib.hid (Nat.le_trans HWT11.out ht20.size)
      clear hc20 ht20
      cases b
      · go_wp2
        go_ret2
        exact ⟨_, L.set k z, a, rfl, HO20.out.more HWL.out HWT20.out, HBY.out, by rw [List.length_set]; have := HLN.out; omega, by unfold I64; omega, HB20.out⟩
      · go_wp2_with fail
        refine (l1DrawPlace w20 HC20.out (m := (n : Int)) (by omega) (by omega)).mono ?_
        rintro e w21 ⟨y, rfl, hy, hc21, ht21⟩
        have HY := Lib.hid hy
        have HT21 := Lib.hid ht21
        clear hy hc21 ht21
        go_wp2
        go_ret2
        exact ⟨_, L.set k z, y, rfl, (HO20.out.touch HT21.out (.inr HGL.out)).more HWL.out (Nat.le_trans HWT20.out HT21.out.size), HBY.out, by rw [List.length_set]; have := HLN.out; omega, HY.out, below_cur HB20.out HT21.out HG.out (Nat.le_refl _)⟩
end Go.Proofs.Ytamgikcoknkghaa.Cur

/-
  The draws of chapter 3: a floor with heads on it, a beginning and an end. What is said of them is that their numbers are of 64 bits, their bytes few.
-/
import Derived.Test.YtamgikcoknkghabDraw2A
import Derived.Test.YtamgikcoknkghabZeros
namespace Go.Proofs.Ytamgikcoknkghab.Cur
open Go.RowKit Go.Proofs.Ytamgikcoknkghab.Mem Go.Proofs.Ytamgikcoknkghab.Pure Go.Proofs.Ytamgikcoknkghab.Help Go.Proofs.Ytamgikcoknkghab.FloorI Go.Proofs.Ytamgikcoknkghab.HeadI
set_option linter.unusedVariables false

/-- Some new row of bytes, and two numbers; only the cursor has turned. -/
def RetL3 (w : World) (g : Nat) (C : List Int) (e : Ending) (w' : World) : Prop :=
  ∃ v L a t, e = .returned (.tuple #[v, .int .i64 a, .int .i64 t]) ∧ Own w' w.heap.size w'.heap.size v L ∧ Byt L ∧ L.length ≤ 100 ∧ I64 a ∧ I64 t ∧ Cu w' g C ∧ OnlyIn g (g + 1) w w'
/-- Some new row of bytes, and two numbers. -/
def RetFT (w : World) (e : Ending) (w' : World) : Prop :=
  ∃ v L a t, e = .returned (.tuple #[v, .int .i64 a, .int .i64 t]) ∧ Own w' w.heap.size w'.heap.size v L ∧ Byt L ∧ L.length ≤ 100 ∧ I64 a ∧ I64 t ∧ Below w.heap.size w w'

/-- A row of the call's own, a cursor at g. -/
structure D3 (w : World) (g : Nat) (C : List Int) (v : Value) (L : List Int) (wr : World) : Prop where
  own : Own wr w.heap.size wr.heap.size v L
  byt : Byt L
  cu : Cu wr g C
  only : OnlyIn g (g + 1) w wr
  lt : g < w.heap.size
section
variable {w wr w2 : World} {g : Nat} {C : List Int} {v : Value} {L : List Int}
theorem D3.cur (h : Hid (D3 w g C v L wr)) (hc : Cu w2 g C) (ht : OnlyIn g (g + 1) wr w2) : Hid (D3 w g C v L w2) :=
  Lib.hid ⟨(h.out.own.touch ht (.inr h.out.lt)).more (Nat.le_refl _) ht.size, h.out.byt, hc, h.out.only.trans ht, h.out.lt⟩
theorem D3.grow (h : Hid (D3 w g C v L wr)) (hb : Below wr.heap.size wr w2) : Hid (D3 w g C v L w2) :=
  Lib.hid ⟨(h.out.own.below hb).more (Nat.le_refl _) hb.size, h.out.byt, h.out.cu.below hb, only_below h.out.only hb, h.out.lt⟩
theorem D3.turn {v2 : Value} {L2 : List Int} (h : Hid (D3 w g C v L wr)) (ho : Own w2 w.heap.size w2.heap.size v2 L2) (hy : Byt L2) (ht : OnlyIn w.heap.size wr.heap.size wr w2) : Hid (D3 w g C v2 L2 w2) :=
  Lib.hid ⟨ho, hy, h.out.cu.touch ht h.out.lt, only_new h.out.only ht (Nat.le_refl _), h.out.lt⟩
end
theorem byt_append {L M : List Int} (h : Byt L) (k : Byt M) : Byt (L ++ M) := fun x hx => by
  rw [List.mem_append] at hx
  exact hx.elim (h x) (k x)

set_option maxRecDepth 100000 in
set_option maxHeartbeats 4000000 in
theorem l3Draw (w : World) {g : Nat} {C : List Int} (h : Cu w g C) :
    Calls Try.prog 43 #[.pointer (some ⟨g, 0, none⟩)] w (RetL3 w g C) := by
  obtain ⟨i0, hi0, hz0, hz1, hz2⟩ := info_parts infoB
  have HG := Lib.hid h.lt
  have HC := Lib.hid h
  clear h
  go_enter Try.func43, Try.ntmps43
  go_wp2_with fail
  refine (l1Below w HC.out (n := 5) (by unfold I64; omega)).mono ?_
  rintro e w1 ⟨a, rfl, ⟨a1, a2, _⟩, hc1, ht1⟩
  have a3 : a < 5 := a2 (by omega)
  obtain ⟨n, rfl⟩ : ∃ n : Nat, a = n := ⟨a.toNat, by omega⟩
  have HC1 := Lib.hid hc1
  have HT1 := Lib.hid ht1
  clear a1 a2 hc1 ht1 HC
  go_wp2_with (at_make; refine wpList_make_full _ rfl _ _ 28 rfl w.heap.size 5 i0 (.int .u8 0) 1 Try.underlying28 hi0 hz0 hz1 .i64 .i64 _ _ n rfl rfl rfl rfl ?_ ?_ ?_ ?_)
  · rw [hz2]; omega
  · unfold maxLen; omega
  · exact HT1.out.size
  intro w2 hown hgr
  have hb2 : Below w1.heap.size w1 w2 := (Below.refl _ _).grown hgr (Nat.le_refl _) (fun k hk => by cases hk)
  have HO2 : Hid (Own w2 w.heap.size w2.heap.size (.slice (some ⟨w1.heap.size, 0, none⟩) n n) (List.replicate n 0)) :=
    Lib.hid (own_of_row hown (by simp) ((toList_madeCells_one _ _).trans (by simp)))
  have HD2 : Hid (D3 w g C (.slice (some ⟨w1.heap.size, 0, none⟩) n n) (List.replicate n 0) w2) := Lib.hid ⟨HO2.out, byt_zeros n, HC1.out.below hb2, only_below HT1.out hb2, HG.out⟩
  clear hown hgr hb2 HO2 HC1 HT1
  go_wp2_with fail
  refine (l1Below w2 HD2.out.cu (n := 4) (by unfold I64; omega)).mono ?_
  rintro e w3 ⟨b, rfl, ⟨b1, b2, _⟩, hc3, ht3⟩
  have b3 : b < 4 := b2 (by omega)
  obtain ⟨q, rfl⟩ : ∃ q : Nat, b = q := ⟨b.toNat, by omega⟩
  have HD3 := D3.cur HD2 hc3 ht3
  clear b1 b2 hc3 ht3 HD2
  go_wp2_with fail
  go_loopw [5, 7] (fun bv nv wr => ∃ (L : List Int) (k : Nat), nv = .int .i64 k ∧ k ≤ 3 ∧ L.length ≤ 4 + 20 * (3 - k) ∧ Hid (D3 w g C bv L wr)) (fun _ nv _ => (intOf nv).toNat)
  case atStart => exact ⟨_, q, rfl, by omega, by simp; omega, HD3⟩
  case round =>
    obtain ⟨L, k, rfl, hk, hl, hd⟩ := hrel
    obtain ⟨A5, c5, rfl, _, _, _⟩ := hd.out.own.rd
    clear HD3
    by_cases hk0 : 0 < k
    · go_wp2_with fail
      refine (l2Draw _ hd.out.cu).mono ?_
      rintro e w4 ⟨s, o, l, r, rfl, is, io, il, ir, ⟨hh, hs20⟩, hc4, ht4⟩
      have HHB := Lib.hid hh
      have hs6 := (headB_iff.1 hh).1
      obtain ⟨r0, r6, rs, _⟩ := hs6
      obtain ⟨m, rfl⟩ : ∃ m : Nat, s = m := ⟨s.toNat, by omega⟩
      have hm20 : m ≤ 20 := by omega
      have HD4 := D3.cur hd hc4 ht4
      have HLL := Lib.hid hl
      clear is io il ir hh hs20 hc4 ht4 hd r0 r6 rs hl
      go_wp2_with (at_make; refine wpList_make_full _ rfl _ _ 28 rfl w4.heap.size 5 i0 (.int .u8 0) 1 Try.underlying28 hi0 hz0 hz1 .i64 .i64 _ _ m rfl rfl rfl rfl ?_ ?_ ?_ ?_)
      · rw [hz2]; omega
      · unfold maxLen; omega
      · simp
      intro w5 hown hgr
      have hb5 : Below w4.heap.size w4 w5 := ((Below.refl _ _).alloc (Nat.le_refl _) _).grown hgr (by simp) (fun k hk => by cases hk)
      have HX5 : Hid (Own w5 w4.heap.size w5.heap.size (.slice (some ⟨w4.heap.size + 1, 0, none⟩) m m) (List.replicate m 0)) := Lib.hid (by
        have := own_of_row (w := w5) (L := List.replicate m 0) hown (by simp) ((toList_madeCells_one _ _).trans (by simp))
        simpa using this)
      have HD5 := D3.grow HD4 hb5
      have HY5 : Hid (Blk w5 w4.heap.size #[.int .i64 m, .int .i64 o, .int .i64 l, .int .i64 r] 25) := Lib.hid ((Blk.new w4 _ _).below ((Below.refl _ _).grown hgr (Nat.le_refl _) (fun k hk => by cases hk)))
      obtain ⟨y0, y1, y2, y3⟩ := HY5.out.cells4
      clear hown hgr hb5 HD4
      go_wp2_with fail
      refine (HeadS.headBytes w5).mono ?_
      rintro e w6 ⟨v6, rfl, ho6, hb6⟩
      have HO6 := Lib.hid ho6
      have hl6 := headL_length m o l r
      have HY6 := Lib.hid (byt_headL m o l r)
      obtain ⟨M, hM⟩ : ∃ M, M = headL m o l r := ⟨_, rfl⟩
      rw [← hM] at HO6 hl6 HY6
      have HD6 := D3.grow HD5 hb6
      have HX6 := Lib.hid (HX5.out.below hb6)
      clear hM ho6 hb6 y0 y1 y2 y3 HY5 HD5 HX5
      go_wp2_with fail
      have hl7 := FloorS.laid w6 HX6.out.rd HO6.out.rd (Nat.le_refl _) (by simp; omega) (by omega) (a := 0) (by unfold I64; omega)
      have hlen := laidL_length (List.replicate m 0) 0 M
      have hlb : Byt (laidL (List.replicate m 0) 0 M) := byt_laidL (byt_zeros m) HY6.out
      rw [List.length_replicate] at hlen
      obtain ⟨L7, hL7⟩ : ∃ L7, L7 = laidL (List.replicate m 0) 0 M := ⟨_, rfl⟩
      rw [← hL7] at hl7 hlen hlb
      have HL := Lib.hid hl7
      have HLN := Lib.hid hlen
      have HLB := Lib.hid hlb
      clear hl7 hL7 hl6 hlen hlb
      refine HL.out.mono ?_
      rintro e w7 ⟨v7, rfl, ho7, hb7⟩
      have HO7 := Lib.hid ho7
      have HD7 := D3.grow HD6 hb7
      have HWL : Hid (w.heap.size ≤ w7.heap.size) := Lib.hid HD7.out.only.size
      obtain ⟨A7, c7, rfl, _, _, hz7⟩ := ho7.rd
      clear hz7 ho7 hb7 HL HD6 HX6 HO6
      go_wp2_with (
        at_builtin
        refine wpList_append_b rfl _ _ _ rfl Try.underlying28 infoB HD7.out.own HO7.out.rd rfl rfl (by have := HLL.out; have := HLN.out; omega) HWL.out ?_
        intro v8 w8 ho8 ht8
        have HD8 := D3.turn HD7 ho8 (byt_append HD7.out.byt HLB.out) ht8
        clear ho8 ht8)
      go_roundw
      case rel =>
        refine ⟨L ++ L7, k - 1, ?_, by omega, ?_, HD8⟩
        · show Value.int .i64 ((k : Int) - 1) = .int .i64 ((k - 1 : Nat) : Int)
          congr 1
          omega
        · rw [List.length_append, HLN.out]
          have := HLL.out
          omega
      case measure => simp [intOf]; omega
    · obtain rfl : k = 0 := by omega
      have hl0 : L.length ≤ 64 := by omega
      have HLL := Lib.hid hl0
      clear hl hl0
      go_wp2_with fail
      refine (l1Below _ hd.out.cu (n := 5) (by unfold I64; omega)).mono ?_
      rintro e w4 ⟨a, rfl, ⟨a1, a2, _⟩, hc4, ht4⟩
      have a3 : a < 5 := a2 (by omega)
      obtain ⟨m, rfl⟩ : ∃ m : Nat, a = m := ⟨a.toNat, by omega⟩
      have HD4 := D3.cur hd hc4 ht4
      have HWL : Hid (w.heap.size ≤ w4.heap.size) := Lib.hid HD4.out.only.size
      clear a1 a2 hc4 ht4 hd
      go_wp2_with (
        at_builtin
        refine wpList_append_zeros_b rfl _ _ _ _ rfl .i64 .i64 Try.underlying28 Try.underlying2 infoB HD4.out.own m (by have := HLL.out; omega) HWL.out rfl rfl ?_
        intro v5 w5 ho5 ht5
        have HD5 := D3.turn HD4 ho5 (byt_append HD4.out.byt (byt_zeros m)) ht5
        have HLM : Hid ((L ++ List.replicate m 0).length ≤ 68) := Lib.hid (by rw [List.length_append, List.length_replicate]; have := HLL.out; omega)
        clear ho5 ht5)
      obtain ⟨L5, hL5⟩ : ∃ L5, L5 = L ++ List.replicate m 0 := ⟨_, rfl⟩
      rw [← hL5] at HD5 HLM
      obtain ⟨A6, c6, rfl, _, _, hz6⟩ := HD5.out.own.rd
      have hI : I64 (L.length : Int) := by unfold I64; have := HLL.out; omega
      have HI := Lib.hid hI
      have HN : Hid (I64 (n : Int)) := Lib.hid (by unfold I64; omega)
      obtain ⟨z, hz⟩ : ∃ z, z = L5.length := ⟨_, rfl⟩
      have HZ := Lib.hid hz
      have hz68 : z ≤ 68 := by rw [hz]; exact HLM.out
      rw [← hz] at HD5 ⊢
      clear hz hz6 hL5 hI HD4
      refine (l1Once w5 HD5.out.cu (n := 4) (by unfold I64; omega)).mono ?_
      rintro e w6 ⟨b, rfl, hc6, ht6⟩
      have HD6 := D3.cur HD5 hc6 ht6
      clear hc6 ht6 HD5
      cases b
      · go_wp2
        go_ret3
        exact ⟨_, L5, _, _, rfl, HD6.out.own, HD6.out.byt, by have := HZ.out; omega, HN.out, HI.out, HD6.out.cu, HD6.out.only⟩
      · by_cases h0 : z = 0
        · have h0' : ((z : Int)) = 0 := by omega
          subst h0
          go_wp2
          go_ret3
          exact ⟨_, L5, _, _, rfl, HD6.out.own, HD6.out.byt, by have := HZ.out; omega, HN.out, HI.out, HD6.out.cu, HD6.out.only⟩
        · have h1 : 0 < z := by omega
          clear h0
          go_wp2_with fail
          refine (l1Below w6 HD6.out.cu (n := (z : Int)) (by unfold I64; omega)).mono ?_
          rintro e w7 ⟨y, rfl, ⟨y1, y2, _⟩, hc7, ht7⟩
          obtain ⟨k, rfl⟩ : ∃ k : Nat, y = k := ⟨y.toNat, by omega⟩
          have hk : k < z := by have := y2 (by omega); omega
          have HD7 := D3.cur HD6 hc7 ht7
          clear hc7 ht7 y1 y2 HD6
          go_wp2_with fail
          refine (l1Below w7 HD7.out.cu (n := 40) (by unfold I64; omega)).mono ?_
          rintro e w8 ⟨x, rfl, ⟨x1, x2, _⟩, hc8, ht8⟩
          have hx : x < 40 := x2 (by omega)
          have HD8 := D3.cur HD7 hc8 ht8
          clear hc8 ht8 x2 HD7
          obtain ⟨g', hg', hg1, hg2, hgc, hgf, hgs⟩ := HD8.out.own.put (k := k) (by have := HZ.out; omega)
          subst hg'
          obtain ⟨y, hgc'⟩ : ∃ y, w8.cell? ⟨g', k, none⟩ = some (.int .u8 y) := ⟨_, hgc⟩
          obtain ⟨hs1, hs2⟩ := hgs x
          have HD9 := D3.turn HD8 (by simpa using hs1) (byt_set HD8.out.byt k (by omega)) hs2
          clear hgs hs1 hs2 hgc
          go_wp2
          go_ret3
          exact ⟨_, L5.set k x, _, _, rfl, HD9.out.own, HD9.out.byt, by rw [List.length_set]; have := HZ.out; omega, HN.out, HI.out, HD9.out.cu, HD9.out.only⟩

set_option maxHeartbeats 2000000 in
theorem drawWalkOf (w : World) {v : Value} {C : List Int} (h : Rd w 0 w.heap.size v C) (hC : C.length ≤ 4096) (hb : Byt C) :
    Calls Try.prog 22 #[v] w (RetFT w) := by
  have HR := Lib.hid h
  clear h
  go_enter Try.func22, Try.ntmps22
  go_wp2_with fail
  refine (l1New w HR.out hC hb).mono ?_
  rintro e w1 ⟨g, rfl, hg, hc1, hb1⟩
  have HG := Lib.hid hg
  have HC1 := Lib.hid hc1
  have HB1 := Lib.hid hb1
  clear hg hc1 hb1
  go_wp2_with fail
  refine (l3Draw w1 HC1.out).mono ?_
  rintro e w2 ⟨v2, L, a, t, rfl, ho2, hy2, hl2, ia, it, hc2, ht2⟩
  have HD2 : Hid (D3 w1 g C v2 L w2) := Lib.hid ⟨ho2, hy2, hc2, ht2, HC1.out.lt⟩
  have HLL := Lib.hid hl2
  have HIA := Lib.hid ia
  have HIT := Lib.hid it
  have HIL : Hid (I64 (L.length : Int)) := Lib.hid (by unfold I64; omega)
  obtain ⟨A2, c2, rfl, _, _, hz2⟩ := ho2.rd
  have hl100 := hl2
  clear hz2 ho2 hy2 hc2 ht2 hl2 ia it HC1
  go_wp2_with fail
  refine (l1Once w2 HD2.out.cu (n := 8) (by unfold I64; omega)).mono ?_
  rintro e w3 ⟨b, rfl, hc3, ht3⟩
  have HD3 := D3.cur HD2 hc3 ht3
  clear hc3 ht3 HD2
  cases b
  · go_wp2_with fail
    refine (l1Once w3 HD3.out.cu (n := 8) (by unfold I64; omega)).mono ?_
    rintro e w4 ⟨b, rfl, hc4, ht4⟩
    have HD4 := D3.cur HD3 hc4 ht4
    clear hc4 ht4 HD3
    cases b
    · go_wp2
      go_ret3
      exact ⟨_, L, _, _, rfl, HD4.out.own.more HB1.out.size (Nat.le_refl _), HD4.out.byt, HLL.out, HIA.out, HIT.out, below_cur HB1.out HD4.out.only HG.out (Nat.le_refl _)⟩
    · go_wp2_with fail
      refine (l1DrawPlace w4 HD4.out.cu (m := (L.length : Int)) (by omega) (by omega)).mono ?_
      rintro e w5 ⟨y, rfl, hy, hc5, ht5⟩
      have HD5 := D3.cur HD4 hc5 ht5
      have HY := Lib.hid hy
      clear hc5 ht5 HD4 hy
      go_wp2
      go_ret3
      exact ⟨_, L, _, _, rfl, HD5.out.own.more HB1.out.size (Nat.le_refl _), HD5.out.byt, HLL.out, HIA.out, HY.out, below_cur HB1.out HD5.out.only HG.out (Nat.le_refl _)⟩
  · go_wp2_with fail
    refine (l1DrawPlace w3 HD3.out.cu (m := (L.length : Int)) (by omega) (by omega)).mono ?_
    rintro e w4 ⟨y, rfl, hy, hc4, ht4⟩
    have HD4 := D3.cur HD3 hc4 ht4
    have HY := Lib.hid hy
    clear hc4 ht4 HD3 hy
    go_wp2
    go_ret3
    exact ⟨_, L, _, _, rfl, HD4.out.own.more HB1.out.size (Nat.le_refl _), HD4.out.byt, HLL.out, HY.out, HIT.out, below_cur HB1.out HD4.out.only HG.out (Nat.le_refl _)⟩

set_option maxHeartbeats 2000000 in
theorem drawBareIn (w : World) {v : Value} {C : List Int} (h : Rd w 0 w.heap.size v C) (hC : C.length ≤ 4096) (hb : Byt C) :
    Calls Try.prog 25 #[v] w (RetFT w) := by
  have HR := Lib.hid h
  clear h
  go_enter Try.func25, Try.ntmps25
  go_wp2_with fail
  refine (l1New w HR.out hC hb).mono ?_
  rintro e w1 ⟨g, rfl, hg, hc1, hb1⟩
  have HG := Lib.hid hg
  have HC1 := Lib.hid hc1
  have HB1 := Lib.hid hb1
  clear hg hc1 hb1
  go_wp2_with fail
  refine (l3Draw w1 HC1.out).mono ?_
  rintro e w2 ⟨v2, L, a, t, rfl, ho2, hy2, hl2, ia, it, hc2, ht2⟩
  have HD2 : Hid (D3 w1 g C v2 L w2) := Lib.hid ⟨ho2, hy2, hc2, ht2, HC1.out.lt⟩
  have HLL := Lib.hid hl2
  have HIA := Lib.hid ia
  have HIT := Lib.hid it
  have HIL : Hid (I64 (L.length : Int)) := Lib.hid (by unfold I64; omega)
  obtain ⟨A2, c2, rfl, _, _, hz2⟩ := ho2.rd
  have hl100 := hl2
  clear hz2 ho2 hy2 hc2 ht2 hl2 ia it HC1
  go_wp2_with fail
  refine (l1Once w2 HD2.out.cu (n := 2) (by unfold I64; omega)).mono ?_
  rintro e w3 ⟨b, rfl, hc3, ht3⟩
  have HD3 := D3.cur HD2 hc3 ht3
  clear hc3 ht3 HD2
  cases b
  · go_wp2_with fail
    refine (l1Once w3 HD3.out.cu (n := 4) (by unfold I64; omega)).mono ?_
    rintro e w4 ⟨b, rfl, hc4, ht4⟩
    have HD4 := D3.cur HD3 hc4 ht4
    clear hc4 ht4 HD3
    cases b
    · go_wp2
      go_ret3
      exact ⟨_, L, _, _, rfl, HD4.out.own.more HB1.out.size (Nat.le_refl _), HD4.out.byt, HLL.out, (by unfold I64; omega), HIA.out, below_cur HB1.out HD4.out.only HG.out (Nat.le_refl _)⟩
    · go_wp2_with fail
      refine (l1DrawPlace w4 HD4.out.cu (m := (L.length : Int)) (by omega) (by omega)).mono ?_
      rintro e w5 ⟨y, rfl, hy, hc5, ht5⟩
      have HD5 := D3.cur HD4 hc5 ht5
      have HY := Lib.hid hy
      clear hc5 ht5 HD4 hy
      go_wp2
      go_ret3
      exact ⟨_, L, _, _, rfl, HD5.out.own.more HB1.out.size (Nat.le_refl _), HD5.out.byt, HLL.out, HIA.out, HY.out, below_cur HB1.out HD5.out.only HG.out (Nat.le_refl _)⟩
  · go_wp2
    go_ret3
    exact ⟨_, L, _, _, rfl, HD3.out.own.more HB1.out.size (Nat.le_refl _), HD3.out.byt, HLL.out, HIT.out, HIL.out, below_cur HB1.out HD3.out.only HG.out (Nat.le_refl _)⟩
end Go.Proofs.Ytamgikcoknkghab.Cur

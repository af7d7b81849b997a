/-
  The draws of chapter 1 (package spec): some floor, some numbers. What is said of them is that they are bytes, few, and numbers of 64 bits.
-/
import Derived.Test.YtamgikcoknkghaaCur
namespace Go.Proofs.Ytamgikcoknkghaa.Cur
open Go.RowKit Go.Proofs.Ytamgikcoknkghaa.Mem Go.Proofs.Ytamgikcoknkghaa.Help Go.Proofs.Ytamgikcoknkghaa.FloorI
set_option linter.unusedVariables false

/-- A new cursor. -/
def RetC (w : World) (C : List Int) (e : Ending) (w' : World) : Prop :=
  ∃ g, e = .returned (.pointer (some ⟨g, 0, none⟩)) ∧ w.heap.size ≤ g ∧ Cu w' g C ∧ Below w.heap.size w w'

set_option maxHeartbeats 1000000 in
theorem l1New (w : World) {v : Value} {C : List Int} (h : Rd w 0 w.heap.size v C) (hC : C.length ≤ 4096) (hb : Byt C) :
    Calls Try.prog 34 #[v] w (RetC w C) := by
  have HR := Lib.hid h
  have HL := Lib.hid hC
  obtain ⟨A, c, rfl, _, _, _⟩ := h
  obtain ⟨n, hn⟩ : ∃ n, n = C.length := ⟨_, rfl⟩
  have HN := Lib.hid hn
  rw [← hn] at hC HR ⊢
  clear hn
  go_enter Try.func34, Try.ntmps34
  go_wp2_with fail
  go_loop [3, 4] (fun x i => ∃ (k : Nat) (y : Int), k ≤ n ∧ i = .int .i64 k ∧ x = .int .i64 y) (fun _ i => n - (intOf i).toNat)
  case atStart => exact ⟨0, _, Nat.zero_le _, rfl, rfl⟩
  case round =>
    obtain ⟨k, y, hk, rfl, rfl⟩ := hrel
    by_cases hlt : k < n
    · obtain ⟨b, o, rfl, _, _, hck⟩ := HR.out.spot (k := k) (by have := HN.out; omega)
      obtain ⟨z, hz⟩ : ∃ z, z = C.getD k 0 := ⟨_, rfl⟩
      rw [← hz] at hck
      clear hz
      go_wp2
      go_round
      case rel => exact ⟨k + 1, _, by omega, by go_num, rfl⟩
      case measure => simp [intOf]; omega
    · obtain rfl : k = n := by omega
      go_wp2
      go_ret
      refine ⟨w.heap.size, rfl, Nat.le_refl _, ⟨_, 0, y, heap_alloc_new w _, HR.out.below ((Below.refl _ _).alloc (Nat.le_refl _) _), Int.le_refl _, by omega, HL.out, hb⟩, (Below.refl _ _).alloc (Nat.le_refl _) _⟩

theorem only_new {lo hi lo2 hi2 : Nat} {w w1 w2 : World} (h : OnlyIn lo hi w w1) (k : OnlyIn lo2 hi2 w1 w2) (hl : w.heap.size ≤ lo2) : OnlyIn lo hi w w2 :=
  ⟨k.os.trans h.os, k.tape.trans h.tape, k.output.trans h.output, Nat.le_trans h.size k.size,
    fun i hi hn => (k.block i (Nat.lt_of_lt_of_le hi h.size) (by omega)).trans (h.block i hi hn)⟩
theorem byt_set {L : List Int} (h : Byt L) (k : Nat) {x : Int} (hx : 0 ≤ x ∧ x ≤ 255) : Byt (L.set k x) := by
  intro y hy
  rcases List.mem_or_eq_of_mem_set hy with h1 | rfl
  · exact h y h1
  · exact hx

/-- Some new row of at most 40 bytes; only the cursor has turned. -/
def RetF (w : World) (g : Nat) (C : List Int) (e : Ending) (w' : World) : Prop :=
  ∃ v L, e = .returned v ∧ Own w' w.heap.size w'.heap.size v L ∧ Byt L ∧ L.length ≤ 40 ∧ Cu w' g C ∧ OnlyIn g (g + 1) w w'

set_option maxHeartbeats 1000000 in
theorem l1DrawFloor (w : World) {g : Nat} {C : List Int} (h : Cu w g C) :
    Calls Try.prog 35 #[.pointer (some ⟨g, 0, none⟩)] w (RetF w g C) := by
  obtain ⟨i0, hi0, hz0, hz1, hz2⟩ := info_parts infoB
  have HC := Lib.hid h
  clear h
  go_enter Try.func35, Try.ntmps35
  go_wp2_with fail
  refine (l1Below w HC.out (n := 40) (by unfold I64; omega)).mono ?_
  rintro e w1 ⟨r, rfl, ⟨r1, r2, _⟩, hc1, ht1⟩
  obtain ⟨n, rfl⟩ : ∃ n : Nat, r = n := ⟨r.toNat, by omega⟩
  have hn : n < 40 := by have := r2 (by omega); omega
  have HC1 := Lib.hid hc1
  have HT1 := Lib.hid ht1
  clear hc1 ht1 r1 r2
  go_wp2_with (at_make; refine wpList_make_full _ rfl _ _ 22 rfl w1.heap.size 5 i0 (.int .u8 0) 1 Try.underlying22 hi0 hz0 hz1 .i64 .i64 _ _ n rfl rfl rfl rfl ?_ ?_ ?_ ?_)
  · rw [hz2]; omega
  · unfold maxLen; omega
  · exact Nat.le_refl _
  · intro w2 hown hg
    have hb2 : Below w1.heap.size w1 w2 := (Below.refl _ _).grown hg (Nat.le_refl _) (fun k hk => by cases hk)
    have HB2 := Lib.hid hb2
    have HO2 : Hid (Own w2 w1.heap.size w2.heap.size (.slice (some ⟨w1.heap.size, 0, none⟩) n n) (List.replicate n 0)) :=
      own_of_row hown (by simp) ((toList_madeCells_one _ _).trans (by simp))
    clear hown hg hb2
    go_wp2_with fail
    go_loopw [4] (fun i wr => ∃ (k : Nat) (M : List Int), k ≤ n ∧ i = .int .i64 k ∧ Hid (M.length = n) ∧ Byt M ∧ Hid (Own wr w1.heap.size w2.heap.size (.slice (some ⟨w1.heap.size, 0, none⟩) n n) M) ∧ Cu wr g C ∧ Hid (OnlyIn g (g + 1) w wr) ∧ Hid (w2.heap.size ≤ wr.heap.size))
      (fun i _ => n - (intOf i).toNat)
    case atStart => exact ⟨0, _, Nat.zero_le _, rfl, Lib.hid (by simp), Pure.byt_zeros _, HO2, HC1.out.below HB2.out, (HT1.out.trans (OnlyIn.of_below HB2.out)), Nat.le_refl _⟩
    case round =>
      obtain ⟨k, M, hk, rfl, hM, hby, ho, hcu, ht, hz⟩ := hrel
      have HCR := Lib.hid hcu
      have HBY := Lib.hid hby
      clear hcu hby
      by_cases hlt : k < n
      · go_wp2_with fail
        refine (l1Once wr HCR.out (n := 2) (by unfold I64; omega)).mono ?_
        rintro e w3 ⟨b, rfl, hc3, ht3⟩
        have HC3 := Lib.hid hc3
        have HT3 := Lib.hid ht3
        have hg1 : g < w1.heap.size := HC1.out.lt
        have HO3 : Hid (Own w3 w1.heap.size w2.heap.size (.slice (some ⟨w1.heap.size, 0, none⟩) n n) M) := ho.out.touch HT3.out (.inr hg1)
        clear hc3 ht3
        cases b
        · go_wp2_with fail
          go_roundw
          case rel => exact ⟨k + 1, M, by omega, by go_num, hM, HBY.out, HO3, HC3.out, ht.out.trans HT3.out, Nat.le_trans hz.out HT3.out.size⟩
          case measure => simp [intOf]; omega
        · go_wp2_with fail
          refine (l1Below w3 HC3.out (n := 256) (by unfold I64; omega)).mono ?_
          rintro e w4 ⟨r, rfl, ⟨r1, r2, _⟩, hc4, ht4⟩
          have HC4 := Lib.hid hc4
          have HT4 := Lib.hid ht4
          have hr : r < 256 := r2 (by omega)
          have HO4 : Hid (Own w4 w1.heap.size w2.heap.size (.slice (some ⟨w1.heap.size, 0, none⟩) n n) M) := HO3.out.touch HT4.out (.inr hg1)
          obtain ⟨g', hg', _, _, hgc, hgf, hgs⟩ := HO4.out.put (k := k) (by have := hM.out; omega)
          injection hg' with hg'
          injection hg' with hg'
          subst hg'
          obtain ⟨y, hgc'⟩ : ∃ y, w4.cell? ⟨w1.heap.size, k, none⟩ = some (.int .u8 y) := ⟨_, hgc⟩
          obtain ⟨hs1, hs2⟩ := hgs r
          have HS1 := Lib.hid hs1
          have HS2 := Lib.hid hs2
          clear hc4 ht4 r2 hgc hgs hs1 hs2
          go_wp2_with fail
          go_roundw
          case rel => exact ⟨k + 1, M.set k r, by omega, by go_num, Lib.hid (by rw [List.length_set]; exact hM.out), byt_set HBY.out k (by omega), HS1, HC4.out.touch HS2.out hg1, only_new ((ht.out.trans HT3.out).trans HT4.out) HS2.out HT1.out.size, Nat.le_trans hz.out (Nat.le_trans HT3.out.size (Nat.le_trans HT4.out.size HS2.out.size))⟩
          case measure => simp [intOf]; omega
      · obtain rfl : k = n := by omega
        go_wp2_with fail
        go_ret
        exact ⟨_, M, rfl, ho.out.more HT1.out.size hz.out, HBY.out, by have := hM.out; omega, HCR.out, ht.out⟩

/-- Some number of 64 bits; only the cursor has turned. -/
def RetI (w : World) (g : Nat) (C : List Int) (e : Ending) (w' : World) : Prop := ∃ r, e = .returned (.int .i64 r) ∧ I64 r ∧ Cu w' g C ∧ OnlyIn g (g + 1) w w'

set_option maxHeartbeats 1000000 in
theorem l1DrawPlace (w : World) {g : Nat} {C : List Int} (h : Cu w g C) {m : Int} (hm : 0 ≤ m) (hm2 : m ≤ 1000000000) :
    Calls Try.prog 36 #[.pointer (some ⟨g, 0, none⟩), .int .i64 m] w (RetI w g C) := by
  have HC := Lib.hid h
  clear h
  go_enter Try.func36, Try.ntmps36
  go_wp2_with fail
  refine (l1Once w HC.out (n := 10) (by unfold I64; omega)).mono ?_
  rintro e w1 ⟨b, rfl, hc1, ht1⟩
  have HC1 := Lib.hid hc1
  have HT1 := Lib.hid ht1
  clear hc1 ht1
  cases b
  · go_wp2_with fail
    refine (l1Below w1 HC1.out (n := m + 1) (by unfold I64; omega)).mono ?_
    rintro e w3 ⟨r, rfl, ⟨r1, r2, _⟩, hc3, ht3⟩
    have HC3 := Lib.hid hc3
    have HT3 := Lib.hid ht3
    have HR : Hid (I64 r) := by have := r2 (by omega); unfold I64; exact Lib.hid (by omega)
    clear hc3 ht3 r1 r2
    go_wp2_with fail
    go_ret
    exact ⟨_, rfl, HR.out, HC3.out, HT1.out.trans HT3.out⟩
  · go_wp2_with fail
    refine (l1Num w1 HC1.out hm (by omega)).mono ?_
    rintro e w3 ⟨r, rfl, hr, hc3, ht3⟩
    have HC3 := Lib.hid hc3
    have HT3 := Lib.hid ht3
    have HR := Lib.hid hr
    clear hc3 ht3 hr
    go_wp2_with fail
    go_ret
    exact ⟨_, rfl, HR.out, HC3.out, HT1.out.trans HT3.out⟩

/-- A new row of at most 40 bytes, and two numbers. -/
def RetF2 (w : World) (e : Ending) (w' : World) : Prop :=
  ∃ v L a n, e = .returned (.tuple #[v, .int .i64 a, .int .i64 n]) ∧ Own w' w.heap.size w'.heap.size v L ∧ Byt L ∧ L.length ≤ 40 ∧ I64 a ∧ I64 n ∧ Below w.heap.size w w'
/-- A new row of at most 40 bytes, a number, another new row. -/
def RetFF (w : World) (e : Ending) (w' : World) : Prop :=
  ∃ v L a v2 M mid, e = .returned (.tuple #[v, .int .i64 a, v2]) ∧ w.heap.size ≤ mid ∧ mid ≤ w'.heap.size ∧ Own w' w.heap.size mid v L ∧ Byt L ∧ L.length ≤ 40 ∧ I64 a ∧ Own w' mid w'.heap.size v2 M ∧ Byt M ∧ M.length ≤ 40 ∧ Below w.heap.size w w'
/-- A new row of at most 40 bytes, and three numbers. -/
def RetF3 (w : World) (e : Ending) (w' : World) : Prop :=
  ∃ v L a n m, e = .returned (.tuple #[v, .int .i64 a, .int .i64 n, .int .i64 m]) ∧ Own w' w.heap.size w'.heap.size v L ∧ Byt L ∧ L.length ≤ 40 ∧ I64 a ∧ I64 n ∧ I64 m ∧ Below w.heap.size w w'

theorem i64_under {n r : Int} (h : Under n r) (hn : n ≤ 1000000000) : I64 r := by
  obtain ⟨h1, h2, h3⟩ := h
  unfold I64
  by_cases hp : 0 < n
  · have := h2 hp; omega
  · have := h3 (by omega); omega
theorem results_tmp4 {fn : Func} {t u v x : Tmp} (h : fn.results = #[.tmp t, .tmp u, .tmp v, .tmp x]) (tmps : Array Value) (P : Program) (w : World) :
    (results fn tmps).run P w = .ok (.tuple #[tmps.getD t undef, tmps.getD u undef, tmps.getD v undef, tmps.getD x undef]) w := by simp [results, h]
theorem below_cur {B g : Nat} {w0 w w' : World} (hb : Below B w0 w) (h : OnlyIn g (g + 1) w w') (hg : B ≤ g) (hs : B ≤ w0.heap.size) : Below B w0 w' := below_touch hb h hg hs

set_option maxHeartbeats 1000000 in
theorem drawPartOf (w : World) {v : Value} {C : List Int} (h : Rd w 0 w.heap.size v C) (hC : C.length ≤ 4096) (hb : Byt C) :
    Calls Try.prog 10 #[v] w (RetF2 w) := by
  have HR := Lib.hid h
  clear h
  go_enter Try.func10, Try.ntmps10
  go_wp2_with fail
  refine (l1New w HR.out hC hb).mono ?_
  rintro e w1 ⟨g, rfl, hg, hc1, hb1⟩
  have HG := Lib.hid hg
  have HC1 := Lib.hid hc1
  have HB1 := Lib.hid hb1
  clear hg hc1 hb1
  go_wp2_with fail
  refine (l1DrawFloor w1 HC1.out).mono ?_
  rintro e w2 ⟨v2, L, rfl, ho2, hL, hl, hc2, ht2⟩
  have HO2 := Lib.hid ho2
  have HL := Lib.hid hL
  have HC2 := Lib.hid hc2
  have HT2 := Lib.hid ht2
  have HB2 : Hid (Below w.heap.size w w2) := below_cur HB1.out HT2.out HG.out (Nat.le_refl _)
  have HZ : Hid (w.heap.size ≤ w1.heap.size) := HB1.out.size
  have HGL : Hid (g + 1 ≤ w1.heap.size) := HC1.out.lt
  obtain ⟨A2, c2, rfl, _, _, _⟩ := ho2.rd
  clear hL hc2 ht2 ho2
  go_wp2_with fail
  refine (l1DrawPlace w2 HC2.out (m := (L.length : Int)) (by omega) (by omega)).mono ?_
  rintro e w3 ⟨a, rfl, ha, hc3, ht3⟩
  have HA := Lib.hid ha
  have HC3 := Lib.hid hc3
  have HT3 := Lib.hid ht3
  have HO3 : Hid (Own w3 w1.heap.size w2.heap.size (.slice A2 L.length c2) L) := HO2.out.touch HT3.out (.inr HGL.out)
  have HB3 : Hid (Below w.heap.size w w3) := below_cur HB2.out HT3.out HG.out (Nat.le_refl _)
  clear ha hc3 ht3
  go_wp2_with fail
  refine (l1Once w3 HC3.out (n := 2) (by unfold I64; omega)).mono ?_
  rintro e w4 ⟨b, rfl, hc4, ht4⟩
  have HC4 := Lib.hid hc4
  have HT4 := Lib.hid ht4
  have HO4 : Hid (Own w4 w1.heap.size w2.heap.size (.slice A2 L.length c2) L) := HO3.out.touch HT4.out (.inr HGL.out)
  have HB4 : Hid (Below w.heap.size w w4) := below_cur HB3.out HT4.out HG.out (Nat.le_refl _)
  clear hc4 ht4
  cases b
  · go_wp2_with fail
    refine (l1DrawPlace w4 HC4.out (m := (L.length : Int)) (by omega) (by omega)).mono ?_
    rintro e w5 ⟨n, rfl, hn, hc5, ht5⟩
    have HN := Lib.hid hn
    have HT5 := Lib.hid ht5
    clear hn hc5 ht5
    go_wp2_with fail
    go_ret3
    exact ⟨_, L, a, n, rfl, (HO4.out.touch HT5.out (.inr HGL.out)).more HZ.out (Nat.le_trans HT3.out.size (Nat.le_trans HT4.out.size HT5.out.size)), HL.out, hl, HA.out, HN.out, below_cur HB4.out HT5.out HG.out (Nat.le_refl _)⟩
  · go_wp2_with fail
    refine (l1Below w4 HC4.out (n := 8) (by unfold I64; omega)).mono ?_
    rintro e w5 ⟨n, rfl, hn, hc5, ht5⟩
    have HN : Hid (I64 n) := i64_under hn (by omega)
    have HT5 := Lib.hid ht5
    clear hn hc5 ht5
    go_wp2_with fail
    go_ret3
    exact ⟨_, L, a, n, rfl, (HO4.out.touch HT5.out (.inr HGL.out)).more HZ.out (Nat.le_trans HT3.out.size (Nat.le_trans HT4.out.size HT5.out.size)), HL.out, hl, HA.out, HN.out, below_cur HB4.out HT5.out HG.out (Nat.le_refl _)⟩

set_option maxHeartbeats 1000000 in
theorem drawLaid (w : World) {v : Value} {C : List Int} (h : Rd w 0 w.heap.size v C) (hC : C.length ≤ 4096) (hb : Byt C) :
    Calls Try.prog 13 #[v] w (RetFF w) := by
  obtain ⟨i0, hi0, hz0, hz1, hz2⟩ := info_parts infoB
  have HR := Lib.hid h
  clear h
  go_enter Try.func13, Try.ntmps13
  go_wp2_with fail
  refine (l1New w HR.out hC hb).mono ?_
  rintro e w1 ⟨g, rfl, hg, hc1, hb1⟩
  have HG := Lib.hid hg
  have HC1 := Lib.hid hc1
  have HB1 := Lib.hid hb1
  clear hg hc1 hb1
  go_wp2_with fail
  refine (l1DrawFloor w1 HC1.out).mono ?_
  rintro e w2 ⟨v2, L, rfl, ho2, hL, hl, hc2, ht2⟩
  have HO2 := Lib.hid ho2
  have HL := Lib.hid hL
  have HC2 := Lib.hid hc2
  have HT2 := Lib.hid ht2
  have HB2 : Hid (Below w.heap.size w w2) := below_cur HB1.out HT2.out HG.out (Nat.le_refl _)
  have HZ : Hid (w.heap.size ≤ w1.heap.size) := HB1.out.size
  have HGL : Hid (g + 1 ≤ w1.heap.size) := HC1.out.lt
  obtain ⟨A2, c2, rfl, _, _, _⟩ := ho2.rd
  clear hL hc2 ht2 ho2
  go_wp2_with fail
  refine (l1DrawPlace w2 HC2.out (m := (L.length : Int)) (by omega) (by omega)).mono ?_
  rintro e w3 ⟨a, rfl, ha, hc3, ht3⟩
  have HA := Lib.hid ha
  have HC3 := Lib.hid hc3
  have HT3 := Lib.hid ht3
  have HO3 : Hid (Own w3 w1.heap.size w2.heap.size (.slice A2 L.length c2) L) := HO2.out.touch HT3.out (.inr HGL.out)
  have HB3 : Hid (Below w.heap.size w w3) := below_cur HB2.out HT3.out HG.out (Nat.le_refl _)
  clear ha hc3 ht3
  go_wp2_with fail
  refine (l1Below w3 HC3.out (n := 8) (by unfold I64; omega)).mono ?_
  rintro e w4 ⟨r, rfl, ⟨r1, r2, _⟩, hc4, ht4⟩
  obtain ⟨n, rfl⟩ : ∃ n : Nat, r = n := ⟨r.toNat, by omega⟩
  have hn : n < 8 := by have := r2 (by omega); omega
  have HC4 := Lib.hid hc4
  have HT4 := Lib.hid ht4
  have HO4 : Hid (Own w4 w1.heap.size w2.heap.size (.slice A2 L.length c2) L) := HO3.out.touch HT4.out (.inr HGL.out)
  have HB4 : Hid (Below w.heap.size w w4) := below_cur HB3.out HT4.out HG.out (Nat.le_refl _)
  have HZ24 : Hid (w2.heap.size ≤ w4.heap.size) := Nat.le_trans HT3.out.size HT4.out.size
  clear hc4 ht4 r1 r2
  go_wp2_with (at_make; refine wpList_make_full _ rfl _ _ 22 rfl w4.heap.size 5 i0 (.int .u8 0) 1 Try.underlying22 hi0 hz0 hz1 .i64 .i64 _ _ n rfl rfl rfl rfl ?_ ?_ ?_ ?_)
  · rw [hz2]; omega
  · unfold maxLen; omega
  · exact Nat.le_refl _
  · intro w5 hown hgr
    have hb5 : Below w4.heap.size w4 w5 := (Below.refl _ _).grown hgr (Nat.le_refl _) (fun k hk => by cases hk)
    have HB5 := Lib.hid hb5
    have HO5 : Hid (Own w5 w4.heap.size w5.heap.size (.slice (some ⟨w4.heap.size, 0, none⟩) n n) (List.replicate n 0)) :=
      own_of_row hown (by simp) ((toList_madeCells_one _ _).trans (by simp))
    clear hown hgr hb5
    go_wp2_with fail
    go_loopw [9] (fun i wr => ∃ (k : Nat) (M : List Int), k ≤ n ∧ i = .int .i64 k ∧ Hid (M.length = n) ∧ Byt M ∧ Hid (Own wr w4.heap.size w5.heap.size (.slice (some ⟨w4.heap.size, 0, none⟩) n n) M) ∧ Cu wr g C ∧ Hid (Below w.heap.size w wr) ∧ Hid (w5.heap.size ≤ wr.heap.size) ∧ Hid (Own wr w1.heap.size w2.heap.size (.slice A2 L.length c2) L))
      (fun i _ => n - (intOf i).toNat)
    case atStart => exact ⟨0, _, Nat.zero_le _, rfl, Lib.hid (by simp), Pure.byt_zeros _, HO5, HC4.out.below HB5.out, below_then HB4.out HB5.out (Nat.le_refl _), Nat.le_refl _, HO4.out.below HB5.out⟩
    case round =>
      obtain ⟨k, M, hk, rfl, hM, hby, ho, hcu, ht, hz, hol⟩ := hrel
      have HCR := Lib.hid hcu
      have HBY := Lib.hid hby
      clear hcu hby
      by_cases hlt : k < n
      · go_wp2_with fail
        refine (l1Below wr HCR.out (n := 200) (by unfold I64; omega)).mono ?_
        rintro e w6 ⟨r, rfl, ⟨r1, r2, _⟩, hc6, ht6⟩
        have HC6 := Lib.hid hc6
        have HT6 := Lib.hid ht6
        have hr : r < 200 := r2 (by omega)
        have hgl : g + 1 ≤ w4.heap.size := HC4.out.lt
        have HO6 : Hid (Own w6 w4.heap.size w5.heap.size (.slice (some ⟨w4.heap.size, 0, none⟩) n n) M) := ho.out.touch HT6.out (.inr hgl)
        obtain ⟨g', hg', _, _, hgc, hgf, hgs⟩ := HO6.out.put (k := k) (by have := hM.out; omega)
        injection hg' with hg'
        injection hg' with hg'
        subst hg'
        obtain ⟨y, hgc'⟩ : ∃ y, w6.cell? ⟨w4.heap.size, k, none⟩ = some (.int .u8 y) := ⟨_, hgc⟩
        obtain ⟨hs1, hs2⟩ := hgs (1 + r)
        have HS1 := Lib.hid hs1
        have HS2 := Lib.hid hs2
        clear hc6 ht6 r2 hgc hgs hs1 hs2
        go_wp2_with fail
        go_roundw
        case rel => exact ⟨k + 1, M.set k (1 + r), by omega, by go_num, Lib.hid (by rw [List.length_set]; exact hM.out), byt_set HBY.out k (by omega), HS1, HC6.out.touch HS2.out hgl, below_touch (below_cur ht.out HT6.out HG.out (Nat.le_refl _)) HS2.out HB4.out.size (Nat.le_refl _), Nat.le_trans hz.out (Nat.le_trans HT6.out.size HS2.out.size), (hol.out.touch HT6.out (.inr HGL.out)).touch HS2.out (.inl HZ24.out)⟩
        case measure => simp [intOf]; omega
      · obtain rfl : k = n := by omega
        go_wp2_with fail
        go_ret3
        exact ⟨_, L, a, _, M, w4.heap.size, rfl, HB4.out.size, Nat.le_trans HB5.out.size hz.out, hol.out.more HZ.out HZ24.out, HL.out, hl, HA.out, ho.out.more (Nat.le_refl _) hz.out, HBY.out, by have := hM.out; omega, ht.out⟩

set_option maxHeartbeats 1000000 in
theorem drawPushed (w : World) {v : Value} {C : List Int} (h : Rd w 0 w.heap.size v C) (hC : C.length ≤ 4096) (hb : Byt C) :
    Calls Try.prog 16 #[v] w (RetF3 w) := by
  have HR := Lib.hid h
  clear h
  go_enter Try.func16, Try.ntmps16
  go_wp2_with fail
  refine (l1New w HR.out hC hb).mono ?_
  rintro e w1 ⟨g, rfl, hg, hc1, hb1⟩
  have HG := Lib.hid hg
  have HC1 := Lib.hid hc1
  have HB1 := Lib.hid hb1
  clear hg hc1 hb1
  go_wp2_with fail
  refine (l1DrawFloor w1 HC1.out).mono ?_
  rintro e w2 ⟨v2, L, rfl, ho2, hL, hl, hc2, ht2⟩
  have HO2 := Lib.hid ho2
  have HL := Lib.hid hL
  have HC2 := Lib.hid hc2
  have HT2 := Lib.hid ht2
  have HB2 : Hid (Below w.heap.size w w2) := below_cur HB1.out HT2.out HG.out (Nat.le_refl _)
  have HZ : Hid (w.heap.size ≤ w1.heap.size) := HB1.out.size
  have HGL : Hid (g + 1 ≤ w1.heap.size) := HC1.out.lt
  obtain ⟨A2, c2, rfl, _, _, _⟩ := ho2.rd
  clear hL hc2 ht2 ho2
  go_wp2_with fail
  refine (l1DrawPlace w2 HC2.out (m := (L.length : Int)) (by omega) (by omega)).mono ?_
  rintro e w3 ⟨a, rfl, ha, hc3, ht3⟩
  have HA := Lib.hid ha
  have HC3 := Lib.hid hc3
  have HT3 := Lib.hid ht3
  have HO3 : Hid (Own w3 w1.heap.size w2.heap.size (.slice A2 L.length c2) L) := HO2.out.touch HT3.out (.inr HGL.out)
  have HB3 : Hid (Below w.heap.size w w3) := below_cur HB2.out HT3.out HG.out (Nat.le_refl _)
  clear ha hc3 ht3
  go_wp2_with fail
  refine (l1Once w3 HC3.out (n := 8) (by unfold I64; omega)).mono ?_
  rintro e w4 ⟨b, rfl, hc4, ht4⟩
  have HC4 := Lib.hid hc4
  have HT4 := Lib.hid ht4
  have HO4 : Hid (Own w4 w1.heap.size w2.heap.size (.slice A2 L.length c2) L) := HO3.out.touch HT4.out (.inr HGL.out)
  have HB4 : Hid (Below w.heap.size w w4) := below_cur HB3.out HT4.out HG.out (Nat.le_refl _)
  clear hc4 ht4
  cases b
  · obtain ⟨a1, a2⟩ := HA.out
    go_wp2_with fail
    refine (l1Min w4).mono ?_
    rintro e w5 ⟨rfl, rfl⟩
    have hmin : min a 50 + 1 ≤ 51 ∧ -9223372036854775808 ≤ min a 50 + 1 := by omega
    obtain ⟨m, hm⟩ : ∃ m, m = min a 50 := ⟨_, rfl⟩
    rw [← hm] at hmin ⊢
    clear hm
    obtain ⟨m1, m2⟩ := hmin
    go_wp2_with fail
    refine (l1Max w4).mono ?_
    rintro e w5 ⟨rfl, rfl⟩
    obtain ⟨x, hx⟩ : ∃ x, x = max 1 (m + 1) := ⟨_, rfl⟩
    have hx1 : x ≤ 51 := by omega
    have hx2 : 1 ≤ x := by omega
    rw [← hx]
    clear hx
    go_wp2_with fail
    refine (l1Below w4 HC4.out (n := x) (by unfold I64; omega)).mono ?_
    rintro e w5 ⟨n, rfl, hn, hc5, ht5⟩
    have HN : Hid (I64 n) := i64_under hn (by omega)
    have HC5 := Lib.hid hc5
    have HT5 := Lib.hid ht5
    have HO5 : Hid (Own w5 w1.heap.size w2.heap.size (.slice A2 L.length c2) L) := HO4.out.touch HT5.out (.inr HGL.out)
    have HB5 : Hid (Below w.heap.size w w5) := below_cur HB4.out HT5.out HG.out (Nat.le_refl _)
    clear hn hc5 ht5
    go_wp2_with fail
    refine (l1Below w5 HC5.out (n := 12) (by unfold I64; omega)).mono ?_
    rintro e w6 ⟨q, rfl, hq, hc6, ht6⟩
    have HQ : Hid (I64 q) := i64_under hq (by omega)
    have HT6 := Lib.hid ht6
    clear hq hc6 ht6
    go_wp2_with fail
    refine bodyPost_ret (results_tmp4 rfl _ _ _) rfl ?_
    exact ⟨_, L, a, n, q, rfl, (HO5.out.touch HT6.out (.inr HGL.out)).more HZ.out (Nat.le_trans HT3.out.size (Nat.le_trans HT4.out.size (Nat.le_trans HT5.out.size HT6.out.size))), HL.out, hl, HA.out, HN.out, HQ.out, below_cur HB5.out HT6.out HG.out (Nat.le_refl _)⟩
  · go_wp2_with fail
    refine (l1DrawPlace w4 HC4.out (m := (L.length : Int)) (by omega) (by omega)).mono ?_
    rintro e w5 ⟨n, rfl, hn, hc5, ht5⟩
    have HN := Lib.hid hn
    have HC5 := Lib.hid hc5
    have HT5 := Lib.hid ht5
    have HO5 : Hid (Own w5 w1.heap.size w2.heap.size (.slice A2 L.length c2) L) := HO4.out.touch HT5.out (.inr HGL.out)
    have HB5 : Hid (Below w.heap.size w w5) := below_cur HB4.out HT5.out HG.out (Nat.le_refl _)
    clear hn hc5 ht5
    go_wp2_with fail
    refine (l1DrawPlace w5 HC5.out (m := (L.length : Int)) (by omega) (by omega)).mono ?_
    rintro e w6 ⟨q, rfl, hq, hc6, ht6⟩
    have HQ := Lib.hid hq
    have HT6 := Lib.hid ht6
    clear hq hc6 ht6
    go_wp2_with fail
    refine bodyPost_ret (results_tmp4 rfl _ _ _) rfl ?_
    exact ⟨_, L, a, n, q, rfl, (HO5.out.touch HT6.out (.inr HGL.out)).more HZ.out (Nat.le_trans HT3.out.size (Nat.le_trans HT4.out.size (Nat.le_trans HT5.out.size HT6.out.size))), HL.out, hl, HA.out, HN.out, HQ.out, below_cur HB5.out HT6.out HG.out (Nat.le_refl _)⟩
end Go.Proofs.Ytamgikcoknkghaa.Cur

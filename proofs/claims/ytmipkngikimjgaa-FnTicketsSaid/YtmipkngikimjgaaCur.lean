/-
  The model's cursor over the bytes of a draw (package spec): what each of its functions may hand back. No condition but sizes.
-/
import Derived.Test.YtmipkngikimjgaaFloorS
namespace Go.Proofs.Ytmipkngikimjgaa.Cur
open Go.RowKit Go.Proofs.Ytmipkngikimjgaa.Mem Go.Proofs.Ytmipkngikimjgaa.Help Go.Proofs.Ytmipkngikimjgaa.FloorI
set_option linter.unusedVariables false

/-- At block g lies a cursor over the bytes C, which lie below it. -/
def Cu (w : World) (g : Nat) (C : List Int) : Prop :=
  ∃ vb i h, w.heap[g]? = some (.cells #[vb, .int .i64 i, .int .i64 h] 101 (0, 0)) ∧ Rd w 0 g vb C ∧ 0 ≤ i ∧ i ≤ C.length ∧ C.length ≤ 4096 ∧ Byt C

theorem Cu.lt {w : World} {g : Nat} {C : List Int} (h : Cu w g C) : g < w.heap.size := by
  obtain ⟨vb, i, x, h1, _⟩ := h
  exact (Array.getElem?_eq_some_iff.1 h1).1
theorem Cu.touch {w w' : World} {g lo hi : Nat} {C : List Int} (h : Cu w g C) (ht : OnlyIn lo hi w w') (hd : g < lo) : Cu w' g C := by
  obtain ⟨vb, i, x, h1, h2, h3⟩ := h
  refine ⟨vb, i, x, ?_, h2.touch ht (.inl (by omega)), h3⟩
  rw [ht.block g (Array.getElem?_eq_some_iff.1 h1).1 (by omega)]
  exact h1
theorem Cu.below {w w' : World} {g : Nat} {C : List Int} (h : Cu w g C) (hb : Below w.heap.size w w') : Cu w' g C :=
  h.touch (lo := w.heap.size) (hi := 0) (OnlyIn.of_below hb) h.lt

theorem Cu.drewN {w : World} {g : Nat} {C : List Int} (h : Cu w g C) (n : Nat) : Cu (w.drewN n) g C := h
theorem only_drewN {lo hi : Nat} {w w' : World} (h : OnlyIn lo hi w w') (n : Nat) : OnlyIn lo hi w (w'.drewN n) := ⟨h.os, h.tape, h.output, h.size, h.block⟩

/-- A number from lo to hi comes back; only the cursor has turned. -/
def RetN (w : World) (g : Nat) (C : List Int) (P : Int → Prop) (e : Ending) (w' : World) : Prop :=
  ∃ r, e = .returned (.int .i64 r) ∧ P r ∧ Cu w' g C ∧ OnlyIn g (g + 1) w w'

theorem ofInt255 : (BitVec.ofInt 64 255).toNat = 255 := by decide
theorem and255 (x : Int) : 0 ≤ bits .and .i64 x 255 ∧ bits .and .i64 x 255 ≤ 255 := by
  have h : bits .and .i64 x 255 = IntKind.i64.wrap ((BitVec.ofInt 64 x &&& BitVec.ofInt 64 255).toNat : Int) := rfl
  have h2 := Nat.and_le_right (n := (BitVec.ofInt 64 x).toNat) (m := 255)
  rw [h, BitVec.toNat_and, ofInt255, IntKind.wrap_i64]
  omega

theorem turn2 {w : World} {g : Nat} {C : List Int} {vb : Value} {i x : Int} (h1 : w.heap[g]? = some (.cells #[vb, .int .i64 i, .int .i64 x] 101 (0, 0))) (h2 : Rd w 0 g vb C) (h3 : 0 ≤ i) (h4 : i ≤ C.length) (h5 : C.length ≤ 4096) (h6 : Byt C)
    (q : Nat) (X : Int) : Cu ((w.setCell ⟨g, 2, none⟩ (.int .i64 X)).drewN q) g C ∧ OnlyIn g (g + 1) w ((w.setCell ⟨g, 2, none⟩ (.int .i64 X)).drewN q) := by
  have ht : OnlyIn g (g + 1) w ((w.setCell ⟨g, 2, none⟩ (.int .i64 X)).drewN q) :=
    ⟨rfl, rfl, rfl, by show w.heap.size ≤ (w.setCell ⟨g, 2, none⟩ (.int .i64 X)).heap.size; simp, fun k hk hn => by
      show (w.setCell ⟨g, 2, none⟩ (.int .i64 X)).heap[k]? = _
      exact Below.heap_setCell w _ _ k (by show k ≠ g; omega)⟩
  refine ⟨⟨vb, i, X, ?_, h2.touch ht (.inl (Nat.le_refl _)), h3, h4, h5, h6⟩, ht⟩
  show (w.setCell ⟨g, 2, none⟩ (.int .i64 X)).heap[g]? = _
  simp [World.setCell, Array.getElem?_modify, h1]
theorem turn1 {w : World} {g : Nat} {C : List Int} {vb : Value} {i x : Int} (h1 : w.heap[g]? = some (.cells #[vb, .int .i64 i, .int .i64 x] 101 (0, 0))) (h2 : Rd w 0 g vb C) (h5 : C.length ≤ 4096) (h6 : Byt C)
    (q : Nat) (X Y : Int) (h3 : 0 ≤ Y) (h4 : Y ≤ C.length) : Cu (((w.setCell ⟨g, 2, none⟩ (.int .i64 X)).drewN q).setCell ⟨g, 1, none⟩ (.int .i64 Y)) g C ∧ OnlyIn g (g + 1) w (((w.setCell ⟨g, 2, none⟩ (.int .i64 X)).drewN q).setCell ⟨g, 1, none⟩ (.int .i64 Y)) := by
  have ht : OnlyIn g (g + 1) w (((w.setCell ⟨g, 2, none⟩ (.int .i64 X)).drewN q).setCell ⟨g, 1, none⟩ (.int .i64 Y)) :=
    ⟨rfl, rfl, rfl, by show w.heap.size ≤ ((w.setCell ⟨g, 2, none⟩ (.int .i64 X)).setCell ⟨g, 1, none⟩ (.int .i64 Y)).heap.size; simp, fun k hk hn => by
      show ((w.setCell ⟨g, 2, none⟩ (.int .i64 X)).setCell ⟨g, 1, none⟩ (.int .i64 Y)).heap[k]? = _
      rw [Below.heap_setCell _ _ _ k (by show k ≠ g; omega), Below.heap_setCell w _ _ k (by show k ≠ g; omega)]⟩
  refine ⟨⟨vb, Y, X, ?_, h2.touch ht (.inl (Nat.le_refl _)), h3, h4, h5, h6⟩, ht⟩
  show ((w.setCell ⟨g, 2, none⟩ (.int .i64 X)).setCell ⟨g, 1, none⟩ (.int .i64 Y)).heap[g]? = _
  simp [World.setCell, Array.getElem?_modify, h1]

set_option maxHeartbeats 1000000 in
theorem l1Byte (w : World) {g : Nat} {C : List Int} (h : Cu w g C) :
    Calls Try.prog 66 #[.pointer (some ⟨g, 0, none⟩)] w (RetN w g C (fun r => 0 ≤ r ∧ r ≤ 255)) := by
  obtain ⟨vb, i, x, h1, h2, h3, h4, h5, h6⟩ := h
  have c0 : w.cell? ⟨g, 0, none⟩ = some vb := by rw [cell_of_row w g 0 _ _ _ h1]; rfl
  have c1 : w.cell? ⟨g, 1, none⟩ = some (.int .i64 i) := by rw [cell_of_row w g 1 _ _ _ h1]; rfl
  have c2 : w.cell? ⟨g, 2, none⟩ = some (.int .i64 x) := by rw [cell_of_row w g 2 _ _ _ h1]; rfl
  have f2 : w.frozen? ⟨g, 2, none⟩ = false := by simp [World.frozen?, h1]
  have f1 : w.frozen? ⟨g, 1, none⟩ = false := by simp [World.frozen?, h1]
  have HR := Lib.hid h2
  have HH := Lib.hid h1
  obtain ⟨A, c, rfl, hc, hm, _⟩ := h2
  obtain ⟨k, rfl⟩ : ∃ k : Nat, i = k := ⟨i.toNat, by omega⟩
  obtain ⟨n, hn⟩ : ∃ n, n = C.length := ⟨_, rfl⟩
  have HN := Lib.hid hn
  rw [← hn] at c0 h4 h5 HH HR
  clear hc hm h1 hn h3
  by_cases hlt : k < n
  · obtain ⟨b, o, rfl, _, hbg, hck⟩ := HR.out.spot (k := k) (by have := HN.out; omega)
    obtain ⟨y, hy⟩ : ∃ y, y = C.getD k 0 := ⟨_, rfl⟩
    rw [← hy] at hck
    have hck' : ∀ X, (w.setCell ⟨g, 2, none⟩ X).cell? ⟨b, o + k, none⟩ = some (.int .u8 y) := fun X => by
      rw [World.cell?_setCell_other w _ _ X (fun e => by injection e; omega)]; exact hck
    clear hy
    go_enter Try.func66, Try.ntmps66
    go_wp2_with fail
    go_quiet (fail)
    go_wp2_with fail
    go_quiet (fail)
    go_wp2_with fail
    go_quiet (fail)
    go_wp2_with fail
    go_ret
    have q1 := fun q => turn1 HH.out HR.out (by have := HN.out; omega) h6 q (wrap64 (wrap64 (x * 6364136223846793005) + 1442695040888963407)) ((k : Int) + 1) (by omega) (by have := HN.out; omega)
    exact ⟨_, rfl, and255 _, (q1 _).1, (q1 _).2⟩
  · obtain rfl : k = n := by omega
    go_enter Try.func66, Try.ntmps66
    go_wp2_with fail
    go_quiet (fail)
    go_wp2_with fail
    go_quiet (fail)
    go_wp2_with fail
    go_ret
    have q1 := fun q => turn2 HH.out HR.out (by omega) (by have := HN.out; omega) (by have := HN.out; omega) h6 q (wrap64 (wrap64 (x * 6364136223846793005) + 1442695040888963407))
    exact ⟨_, rfl, and255 _, Cu.drewN (q1 _).1 _, only_drewN (q1 _).2 _⟩

/-- What l1Below hands back. -/
def Under (n r : Int) : Prop := 0 ≤ r ∧ (0 < n → r < n) ∧ (n ≤ 0 → r = 0)

set_option maxHeartbeats 1000000 in
theorem l1Below (w : World) {g : Nat} {C : List Int} (h : Cu w g C) {n : Int} (hn : I64 n) :
    Calls Try.prog 41 #[.pointer (some ⟨g, 0, none⟩), .int .i64 n] w (RetN w g C (Under n)) := by
  have HC := Lib.hid h
  clear h
  obtain ⟨n1, n2⟩ := hn
  by_cases h0 : n ≤ 0
  · go_enter Try.func41, Try.ntmps41
    go_wp2_with fail
    go_ret
    exact ⟨_, rfl, ⟨Int.le_refl _, fun h => absurd h (by omega), fun _ => rfl⟩, HC.out, OnlyIn.refl _ _ _⟩
  · by_cases h1 : n ≤ 256
    · go_enter Try.func41, Try.ntmps41
      go_wp2_with fail
      refine (l1Byte w HC.out).mono ?_
      rintro e w1 ⟨r, rfl, ⟨r1, r2⟩, hc1, ht1⟩
      have HC1 := Lib.hid hc1
      have HT1 := Lib.hid ht1
      clear hc1 ht1
      go_wp2_with fail
      go_ret
      refine ⟨r % n, rfl, ⟨Int.emod_nonneg _ (by omega), fun _ => Int.emod_lt_of_pos _ (by omega), fun h => absurd h (by omega)⟩, HC1.out, HT1.out⟩
    · go_enter Try.func41, Try.ntmps41
      go_wp2_with fail
      refine (l1Byte w HC.out).mono ?_
      rintro e w1 ⟨a, rfl, ⟨a1, a2⟩, hc1, ht1⟩
      have HC1 := Lib.hid hc1
      have HT1 := Lib.hid ht1
      clear hc1 ht1
      go_wp2_with fail
      refine (l1Byte w1 HC1.out).mono ?_
      rintro e w2 ⟨b, rfl, ⟨b1, b2⟩, hc2, ht2⟩
      have HC2 := Lib.hid hc2
      have HT2 := Lib.hid ht2
      clear hc2 ht2
      go_wp2_with fail
      refine (l1Byte w2 HC2.out).mono ?_
      rintro e w3 ⟨c, rfl, ⟨c1, c2⟩, hc3, ht3⟩
      have HC3 := Lib.hid hc3
      have HT3 := Lib.hid ht3
      clear hc3 ht3
      go_wp2_with fail
      refine (l1Byte w3 HC3.out).mono ?_
      rintro e w4 ⟨d, rfl, ⟨d1, d2⟩, hc4, ht4⟩
      have HC4 := Lib.hid hc4
      have HT4 := Lib.hid ht4
      clear hc4 ht4
      go_wp2_with fail
      go_ret
      refine ⟨(a * 16777216 + b * 65536 + c * 256 + d) % n, rfl, ⟨Int.emod_nonneg _ (by omega), fun _ => Int.emod_lt_of_pos _ (by omega), fun h => absurd h (by omega)⟩, HC4.out, ((HT1.out.trans HT2.out).trans HT3.out).trans HT4.out⟩

set_option maxHeartbeats 1000000 in
theorem l1Once (w : World) {g : Nat} {C : List Int} (h : Cu w g C) {n : Int} (hn : I64 n) :
    Calls Try.prog 39 #[.pointer (some ⟨g, 0, none⟩), .int .i64 n] w (fun e w' => ∃ b, e = .returned (.bool b) ∧ Cu w' g C ∧ OnlyIn g (g + 1) w w') := by
  have HC := Lib.hid h
  clear h
  go_enter Try.func39, Try.ntmps39
  go_wp2_with fail
  refine (l1Below w HC.out hn).mono ?_
  rintro e w1 ⟨r, rfl, _, hc1, ht1⟩
  have HC1 := Lib.hid hc1
  have HT1 := Lib.hid ht1
  clear hc1 ht1
  go_wp2_with fail
  go_ret
  exact ⟨_, rfl, HC1.out, HT1.out⟩

set_option maxHeartbeats 1000000 in
theorem l1Min (w : World) {x y : Int} : Calls Try.prog 75 #[.int .i64 x, .int .i64 y] w (fun e w' => e = .returned (.int .i64 (min x y)) ∧ w = w') := by
  by_cases h : x < y
  · rw [show min x y = x by omega]
    go_enter Try.func75, Try.ntmps75
    go_wp2
    go_ret
    exact ⟨rfl, rfl⟩
  · rw [show min x y = y by omega]
    go_enter Try.func75, Try.ntmps75
    go_wp2
    go_ret
    exact ⟨rfl, rfl⟩

set_option maxHeartbeats 1000000 in
theorem l1Odd (w : World) {g : Nat} {C : List Int} (h : Cu w g C) :
    Calls Try.prog 40 #[.pointer (some ⟨g, 0, none⟩)] w (fun e w' => ∃ r, e = .returned (.int .i64 r) ∧ I64 r ∧ Cu w' g C ∧ OnlyIn g (g + 1) w w') := by
  have HC := Lib.hid h
  clear h
  go_enter Try.func40, Try.ntmps40
  go_wp2_with fail
  refine (l1Below _ (HC.out.below ((Below.refl _ _).alloc (Nat.le_refl _) _)) (n := 10) (by unfold I64; omega)).mono ?_
  rintro e w2 ⟨r, rfl, ⟨r1, r2, _⟩, hc2, ht2⟩
  have hblk := ht2.block w.heap.size (by simp) (by have := HC.out.lt; omega)
  rw [heap_alloc_new] at hblk
  have HC2 := Lib.hid hc2
  have HT : Hid (OnlyIn g (g + 1) w w2) := (OnlyIn.of_below ((Below.refl _ _).alloc (Nat.le_refl _) _)).trans ht2
  have hr : r = 0 ∨ r = 1 ∨ r = 2 ∨ r = 3 ∨ r = 4 ∨ r = 5 ∨ r = 6 ∨ r = 7 ∨ r = 8 ∨ r = 9 := by have := r2 (by omega); omega
  clear hc2 ht2 r1 r2
  rcases hr with rfl | rfl | rfl | rfl | rfl | rfl | rfl | rfl | rfl | rfl
  · have hc := cell_of_row w2 w.heap.size 0 _ _ _ hblk
    clear hblk
    simp at hc
    go_wp2_with fail
    go_ret
    exact ⟨_, rfl, by unfold I64; omega, HC2.out, HT.out⟩
  · have hc := cell_of_row w2 w.heap.size 1 _ _ _ hblk
    clear hblk
    simp at hc
    go_wp2_with fail
    go_ret
    exact ⟨_, rfl, by unfold I64; omega, HC2.out, HT.out⟩
  · have hc := cell_of_row w2 w.heap.size 2 _ _ _ hblk
    clear hblk
    simp at hc
    go_wp2_with fail
    go_ret
    exact ⟨_, rfl, by unfold I64; omega, HC2.out, HT.out⟩
  · have hc := cell_of_row w2 w.heap.size 3 _ _ _ hblk
    clear hblk
    simp at hc
    go_wp2_with fail
    go_ret
    exact ⟨_, rfl, by unfold I64; omega, HC2.out, HT.out⟩
  · have hc := cell_of_row w2 w.heap.size 4 _ _ _ hblk
    clear hblk
    simp at hc
    go_wp2_with fail
    go_ret
    exact ⟨_, rfl, by unfold I64; omega, HC2.out, HT.out⟩
  · have hc := cell_of_row w2 w.heap.size 5 _ _ _ hblk
    clear hblk
    simp at hc
    go_wp2_with fail
    go_ret
    exact ⟨_, rfl, by unfold I64; omega, HC2.out, HT.out⟩
  · have hc := cell_of_row w2 w.heap.size 6 _ _ _ hblk
    clear hblk
    simp at hc
    go_wp2_with fail
    go_ret
    exact ⟨_, rfl, by unfold I64; omega, HC2.out, HT.out⟩
  · have hc := cell_of_row w2 w.heap.size 7 _ _ _ hblk
    clear hblk
    simp at hc
    go_wp2_with fail
    go_ret
    exact ⟨_, rfl, by unfold I64; omega, HC2.out, HT.out⟩
  · have hc := cell_of_row w2 w.heap.size 8 _ _ _ hblk
    clear hblk
    simp at hc
    go_wp2_with fail
    go_ret
    exact ⟨_, rfl, by unfold I64; omega, HC2.out, HT.out⟩
  · have hc := cell_of_row w2 w.heap.size 9 _ _ _ hblk
    clear hblk
    simp at hc
    go_wp2_with fail
    go_ret
    exact ⟨_, rfl, by unfold I64; omega, HC2.out, HT.out⟩

set_option maxHeartbeats 1000000 in
theorem l1Num (w : World) {g : Nat} {C : List Int} (h : Cu w g C) {m : Int} (hm : 0 ≤ m) (hm2 : m ≤ 1000000000000) :
    Calls Try.prog 65 #[.pointer (some ⟨g, 0, none⟩), .int .i64 m] w (fun e w' => ∃ r, e = .returned (.int .i64 r) ∧ I64 r ∧ Cu w' g C ∧ OnlyIn g (g + 1) w w') := by
  have HC := Lib.hid h
  clear h
  go_enter Try.func65, Try.ntmps65
  go_wp2_with fail
  refine (l1Once w HC.out (n := 10) (by unfold I64; omega)).mono ?_
  rintro e w1 ⟨b, rfl, hc1, ht1⟩
  have HC1 := Lib.hid hc1
  have HT1 := Lib.hid ht1
  clear hc1 ht1
  cases b
  · go_wp2_with fail
    refine (l1Once w1 HC1.out (n := 2) (by unfold I64; omega)).mono ?_
    rintro e w2 ⟨b, rfl, hc2, ht2⟩
    have HC2 := Lib.hid hc2
    have HT2 := Lib.hid ht2
    clear hc2 ht2
    cases b
    · go_wp2_with fail
      refine (l1Below w2 HC2.out (n := m + 1) (by unfold I64; omega)).mono ?_
      rintro e w3 ⟨r, rfl, ⟨r1, r2, _⟩, hc3, ht3⟩
      have HC3 := Lib.hid hc3
      have HT3 := Lib.hid ht3
      have hr : I64 r := by have := r2 (by omega); unfold I64; omega
      have HR := Lib.hid hr
      clear hc3 ht3 r1 r2 hr
      go_wp2_with fail
      go_ret
      exact ⟨_, rfl, HR.out, HC3.out, (HT1.out.trans HT2.out).trans HT3.out⟩
    · go_wp2_with fail
      refine (l1Min w2).mono ?_
      rintro e w3 ⟨rfl, rfl⟩
      go_wp2_with fail
      refine (l1Below w2 HC2.out (n := min m 4 + 1) (by unfold I64; omega)).mono ?_
      rintro e w3 ⟨r, rfl, ⟨r1, r2, _⟩, hc3, ht3⟩
      have HC3 := Lib.hid hc3
      have HT3 := Lib.hid ht3
      have hr : I64 r := by have := r2 (by omega); unfold I64; omega
      have HR := Lib.hid hr
      clear hc3 ht3 r1 r2 hr
      go_wp2_with fail
      go_ret
      exact ⟨_, rfl, HR.out, HC3.out, (HT1.out.trans HT2.out).trans HT3.out⟩
  · go_wp2_with fail
    refine (l1Odd w1 HC1.out).mono ?_
    rintro e w2 ⟨x, rfl, hx, hc2, ht2⟩
    have HC2 := Lib.hid hc2
    have HT2 := Lib.hid ht2
    have HX := Lib.hid hx
    clear hc2 ht2 hx
    go_wp2_with fail
    refine (l1Below _ (HC2.out.below ((Below.refl _ _).alloc (Nat.le_refl _) _)) (n := 4) (by unfold I64; omega)).mono ?_
    rintro e w3 ⟨r, rfl, ⟨r1, r2, _⟩, hc3, ht3⟩
    have hblk := ht3.block w2.heap.size (by simp) (by have := HC2.out.lt; omega)
    rw [heap_alloc_new] at hblk
    have HC3 := Lib.hid hc3
    have HT : Hid (OnlyIn g (g + 1) w w3) := (HT1.out.trans HT2.out).trans ((OnlyIn.of_below ((Below.refl _ _).alloc (Nat.le_refl _) _)).trans ht3)
    have hr : r = 0 ∨ r = 1 ∨ r = 2 ∨ r = 3 := by have := r2 (by omega); omega
    clear hc3 ht3 r1 r2
    rcases hr with rfl | rfl | rfl | rfl
    · have hc := cell_of_row w3 w2.heap.size 0 _ _ _ hblk
      clear hblk
      simp at hc
      go_wp2_with fail
      go_ret
      exact ⟨_, rfl, by unfold I64; omega, HC3.out, HT.out⟩
    · have hc := cell_of_row w3 w2.heap.size 1 _ _ _ hblk
      clear hblk
      simp at hc
      go_wp2_with fail
      go_ret
      exact ⟨_, rfl, by unfold I64; omega, HC3.out, HT.out⟩
    · have hc := cell_of_row w3 w2.heap.size 2 _ _ _ hblk
      clear hblk
      simp at hc
      go_wp2_with fail
      go_ret
      exact ⟨_, rfl, by unfold I64; omega, HC3.out, HT.out⟩
    · have hc := cell_of_row w3 w2.heap.size 3 _ _ _ hblk
      clear hblk
      simp at hc
      go_wp2_with fail
      go_ret
      exact ⟨_, rfl, HX.out, HC3.out, HT.out⟩
end Go.Proofs.Ytmipkngikimjgaa.Cur

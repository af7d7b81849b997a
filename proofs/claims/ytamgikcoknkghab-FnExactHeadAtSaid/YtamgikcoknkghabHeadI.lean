/-
  The program's own chapter 2: what each of its functions hands back, in the words of Pure2. Numbers of 64 bits.
-/
import Derived.Test.YtamgikcoknkghabFloorI
import Derived.Test.YtamgikcoknkghabPure2
import Derived.Laws.BitsAllLaws
import Derived.Laws.BitsLemmas
import Derived.BigRegion
import Derived.StillTailTactics
namespace Go.Proofs.Ytamgikcoknkghab.HeadI
open Go.RowKit Go.Proofs.Ytamgikcoknkghab.Mem Go.Proofs.Ytamgikcoknkghab.Pure Go.Proofs.Ytamgikcoknkghab.Help Go.Proofs.Ytamgikcoknkghab.FloorI
set_option linter.unusedVariables false

set_option maxHeartbeats 400000 in
theorem within (w : World) {x a b : Int} : Calls Try.prog 34 #[.int .i64 x, .int .i64 a, .int .i64 b] w (fun e w' => e = .returned (.bool (decide (a ≤ x ∧ x ≤ b))) ∧ w = w') := by
  by_cases h1 : a ≤ x
  · by_cases h2 : x ≤ b
    · rw [decide_eq_true ⟨h1, h2⟩]
      go_enter Try.func34, Try.ntmps34
      go_wp2
      go_ret
      exact ⟨rfl, rfl⟩
    · rw [decide_eq_false (by omega)]
      go_enter Try.func34, Try.ntmps34
      go_wp2
      go_ret
      exact ⟨rfl, rfl⟩
  · rw [decide_eq_false (by omega)]
    go_enter Try.func34, Try.ntmps34
    go_wp2
    go_ret
    exact ⟨rfl, rfl⟩

set_option maxHeartbeats 400000 in
theorem sizeOk (w : World) {s o l r : Int} :
    Calls Try.prog 33 #[.agg #[.int .i64 s, .int .i64 o, .int .i64 l, .int .i64 r]] w (RetV w (.bool (bigB s r))) := by
  unfold bigB
  by_cases h1 : 0 ≤ r ∧ r ≤ 6
  · by_cases h2 : 6 + r ≤ s ∧ s ≤ 1000
    · rw [decide_eq_true (by omega)]
      go_enter Try.func33, Try.ntmps33
      go_wp2_with (go_at_call 34; refine (within _).mono ?_; rintro e w1 ⟨rfl, rfl⟩)
      go_ret
      exact ⟨by first | rfl | simp, (Below.refl _ _).alloc (Nat.le_refl _) _⟩
    · rw [decide_eq_false (by omega)]
      go_enter Try.func33, Try.ntmps33
      go_wp2_with (go_at_call 34; refine (within _).mono ?_; rintro e w1 ⟨rfl, rfl⟩)
      go_ret
      exact ⟨by first | rfl | simp, (Below.refl _ _).alloc (Nat.le_refl _) _⟩
  · rw [decide_eq_false (by omega)]
    go_enter Try.func33, Try.ntmps33
    go_wp2_with (go_at_call 34; refine (within _).mono ?_; rintro e w1 ⟨rfl, rfl⟩)
    go_ret
    exact ⟨by first | rfl | simp, (Below.refl _ _).alloc (Nat.le_refl _) _⟩

/-- The cells of a new block stay. -/
theorem new_kept {w w1 : World} {cs : Array Value} {t : TypeId} (hb : Below (w.alloc (.cells cs t)).heap.size (w.alloc (.cells cs t)) w1) (k : Nat) : w1.cell? ⟨w.heap.size, k, none⟩ = cs[k]? := by
  rw [hb.cell (p := ⟨w.heap.size, k, none⟩) (by show w.heap.size < _; simp)]
  exact cell_of_row _ _ _ _ _ _ (heap_alloc_new w _)

set_option maxHeartbeats 400000 in
theorem headOk (w : World) {s o l r : Int} :
    Calls Try.prog 11 #[.agg #[.int .i64 s, .int .i64 o, .int .i64 l, .int .i64 r]] w (RetV w (.bool (headB s o l r))) := by
  have HS := Lib.hid (fun w' : World => sizeOk w' (s := s) (o := o) (l := l) (r := r))
  unfold headB
  cases hb : bigB s r
  · rw [hb] at HS
    clear hb
    rw [Bool.false_and]
    go_enter Try.func11, Try.ntmps11
    go_wp2_with fail
    refine (HS.out _).mono ?_
    rintro e w1 ⟨rfl, hb1⟩
    have HB := Lib.hid hb1
    clear hb1
    go_wp2
    go_ret
    exact ⟨rfl, ((Below.refl _ _).alloc (Nat.le_refl _) _).trans (HB.out.mono (by simp))⟩
  · rw [hb] at HS
    clear hb
    rw [Bool.true_and]
    have fin : ∀ (w1 : World) (b : Bool), Below (w.alloc (.cells #[.int .i64 s, .int .i64 o, .int .i64 l, .int .i64 r] 25)).heap.size (w.alloc (.cells #[.int .i64 s, .int .i64 o, .int .i64 l, .int .i64 r] 25)) w1 → RetV w (.bool b) (.returned (.bool b)) w1 :=
      fun w1 b hb => ⟨rfl, ((Below.refl _ _).alloc (Nat.le_refl _) _).trans (hb.mono (by simp))⟩
    have HF := Lib.hid fin
    clear fin
    by_cases h1 : -1 ≤ o ∧ o ≤ 3
    · by_cases h2 : 0 ≤ l ∧ l ≤ 15
      all_goals
        first | rw [decide_eq_true (by omega)] | rw [decide_eq_false (by omega)]
        go_enter Try.func11, Try.ntmps11
        go_wp2_with fail
        refine (HS.out _).mono ?_
        rintro e w1 ⟨rfl, hb1⟩
        have HB := Lib.hid hb1
        have c1 := new_kept hb1 1
        have c2 := new_kept hb1 2
        simp at c1 c2
        clear hb1
        go_wp2_with (go_at_call 34; refine (within _).mono ?_; rintro e w2 ⟨rfl, rfl⟩)
        go_ret
        exact HF.out _ _ HB.out
    · rw [decide_eq_false (by omega)]
      go_enter Try.func11, Try.ntmps11
      go_wp2_with fail
      refine (HS.out _).mono ?_
      rintro e w1 ⟨rfl, hb1⟩
      have HB := Lib.hid hb1
      have c1 := new_kept hb1 1
      have c2 := new_kept hb1 2
      simp at c1 c2
      clear hb1
      go_wp2_with (go_at_call 34; refine (within _).mono ?_; rintro e w2 ⟨rfl, rfl⟩)
      go_ret
      exact HF.out _ _ HB.out

/-- A slice that a literal makes. -/
theorem own_lit (w : World) (lo : Nat) (h : lo ≤ w.heap.size) (L : List Int) (hL : L.length ≤ maxLen) :
    Own (w.alloc (.cells (L.map (Value.int .u8)).toArray 5)) lo (w.alloc (.cells (L.map (Value.int .u8)).toArray 5)).heap.size (.slice (some ⟨w.heap.size, 0, none⟩) L.length L.length) L :=
  .inr ⟨w.heap.size, L.length, _, rfl, h, by simp, heap_alloc_new w _, Nat.le_refl _, hL, by simp, by rw [List.toList_toArray, List.take_of_length_le (by simp)]⟩

theorem own_lit_at (w : World) (lo g : Nat) (hg : g = w.heap.size) (h : lo ≤ w.heap.size) (L : List Int) (hL : L.length ≤ maxLen) :
    Own (w.alloc (.cells (L.map (Value.int .u8)).toArray 5)) lo (w.alloc (.cells (L.map (Value.int .u8)).toArray 5)).heap.size (.slice (some ⟨g, 0, none⟩) L.length L.length) L := by
  subst hg
  exact own_lit w lo h L hL

set_option maxHeartbeats 400000 in
theorem headBytes (w : World) {s o l r : Int} :
    Calls Try.prog 13 #[.agg #[.int .i64 s, .int .i64 o, .int .i64 l, .int .i64 r]] w (RetB w (headL s o l r)) := by
  have HS := Lib.hid (fun w' : World => headOk w' (s := s) (o := o) (l := l) (r := r))
  unfold headL
  by_cases hb : headB s o l r = true
  · rw [if_pos hb]
    rw [hb] at HS
    have h1 := headB_iff.1 hb
    obtain ⟨⟨h11, h12, h13, h14⟩, h15, h16, h17, h18⟩ := h1
    clear hb
    go_enter Try.func13, Try.ntmps13
    go_wp2_with fail
    refine (HS.out _).mono ?_
    rintro e w1 ⟨rfl, hb1⟩
    have HB := Lib.hid hb1
    have c0 := new_kept hb1 0
    have c1 := new_kept hb1 1
    have c2 := new_kept hb1 2
    have c3 := new_kept hb1 3
    simp at c0 c1 c2 c3
    clear hb1
    go_wp2
    go_ret
    have hb2 : Below w.heap.size w w1 := ((Below.refl _ _).alloc (Nat.le_refl _) _).trans (HB.out.mono (by simp))
    exact ⟨_, rfl, own_lit w1 _ hb2.size (headW s o l r) (by unfold headW maxLen; simp), hb2.alloc hb2.size _⟩
  · have hb' : headB s o l r = false := by simpa using hb
    rw [if_neg hb]
    rw [hb'] at HS
    clear hb hb'
    go_enter Try.func13, Try.ntmps13
    go_wp2_with fail
    refine (HS.out _).mono ?_
    rintro e w1 ⟨rfl, hb1⟩
    have HB : Hid (Below w.heap.size w w1) := Lib.hid (((Below.refl _ _).alloc (Nat.le_refl _) _).trans (hb1.mono (by simp)))
    clear hb1
    go_wp2
    go_ret
    exact ⟨_, rfl, own_made w1 _ HB.out.size, HB.out.alloc HB.out.size _⟩

theorem ofInt_i64 (a : Nat) (ha : a < 9223372036854775808) : (BitVec.ofInt 64 (a : Int)).toNat = a := by
  rw [BitVec.ofInt_natCast, BitVec.toNat_ofNat]; exact Nat.mod_eq_of_lt (by omega)
/-- Two bytes, the lower one first. -/
theorem or_two (a b : Int) (ha : 0 ≤ a ∧ a ≤ 255) (hb : 0 ≤ b ∧ b ≤ 255) : bits .or .i64 a (b * 256) = a + 256 * b := by
  obtain ⟨x, rfl⟩ : ∃ x : Nat, a = x := ⟨a.toNat, by omega⟩
  obtain ⟨y, rfl⟩ : ∃ y : Nat, b = y := ⟨b.toNat, by omega⟩
  have hx : x < 2 ^ 8 := by omega
  have e1 : x ||| (y * 256) = y * 256 + x := by
    rw [Nat.or_comm, Nat.mul_comm, show (256 : Nat) = 2 ^ 8 by rfl, ← Nat.two_pow_add_eq_or_of_lt hx]
  show IntKind.i64.wrap ((BitVec.ofInt 64 (x : Int) ||| BitVec.ofInt 64 ((y : Int) * 256)).toNat : Int) = _
  rw [show ((y : Int) * 256) = ((y * 256 : Nat) : Int) by omega, BitVec.toNat_or, ofInt_i64 x (by omega), ofInt_i64 (y * 256) (by omega), IntKind.wrap_i64, e1]
  omega

/-- It hands back a head; nothing that was there has turned. -/
def RetH (w : World) (h : Hd) (e : Ending) (w' : World) : Prop :=
  e = .returned (.agg #[.int .i64 h.s, .int .i64 h.o, .int .i64 h.l, .int .i64 h.r]) ∧ Below w.heap.size w w'
/-- .. and a bool. -/
def RetHB (w : World) (h : Hd) (b : Bool) (e : Ending) (w' : World) : Prop :=
  e = .returned (.tuple #[.agg #[.int .i64 h.s, .int .i64 h.o, .int .i64 h.l, .int .i64 h.r], .bool b]) ∧ Below w.heap.size w w'

set_option maxHeartbeats 1000000 in
theorem headIn (w : World) {lo hi : Nat} {v : Value} {L : List Int} (h : Rd w lo hi v L) (hL : L.length = 6) (hb : Byt L) :
    Calls Try.prog 39 #[v] w (RetH w (dec L)) := by
  match L, hL with
  | [x0, x1, x2, x3, x4, x5], _ =>
    obtain ⟨b, o, c, rfl, _, _, _, _, hbl, hk⟩ := h.head (by simp)
    have hne : ¬ b = w.heap.size := by omega
    have y0 := hb x0 (by simp)
    have y1 := hb x1 (by simp)
    have k0 := hk 0 (by simp)
    have k1 := hk 1 (by simp)
    have k2 := hk 2 (by simp)
    have k3 := hk 3 (by simp)
    have k4 := hk 4 (by simp)
    simp only [List.getD_cons_zero, List.getD_cons_succ, Nat.add_zero] at k0 k1 k2 k3 k4
    have HO := Lib.hid (or_two x0 x1 y0 y1)
    obtain ⟨y00, y01⟩ := y0
    obtain ⟨y10, y11⟩ := y1
    have y2 := hb x2 (by simp)
    obtain ⟨y20, y21⟩ := y2
    have y3 := hb x3 (by simp)
    obtain ⟨y30, y31⟩ := y3
    have y4 := hb x4 (by simp)
    obtain ⟨y40, y41⟩ := y4
    rw [show ([x0, x1, x2, x3, x4, x5] : List Int).length = 6 from rfl]
    clear hk hb h
    go_enter Try.func39, Try.ntmps39
    go_wp2_with fail
    go_region
    go_wp2
    refine bodyPost_ret (v := .agg #[.int .i64 (bits .or .i64 x0 (x1 * 256)), .int .i64 (x2 - 1), .int .i64 x3, .int .i64 x4]) (by simp [results, Try.results39, go_sem]) rfl ?_
    rw [HO.out]
    exact ⟨rfl, drawn ((Below.refl _ _).alloc (Nat.le_refl _) _)⟩

set_option maxHeartbeats 400000 in
theorem bytesEqual (w : World) {la ha lb hb : Nat} {va vb : Value} {LA LB : List Int} (hA : Rd w la ha va LA) (hB : Rd w lb hb vb LB) (bA : Byt LA) (bB : Byt LB) :
    Calls Try.prog 54 #[va, vb] w (RetV w (.bool (decide (LA = LB)))) := by
  have kA := hA.conv (P := Try.prog) 28 5 9 Try.underlying28 Try.underlying5 Try.underlying9
  have kB := hB.conv (P := Try.prog) 28 5 9 Try.underlying28 Try.underlying5 Try.underlying9
  rw [← strOfNums_beq bA bB]
  obtain ⟨sA, hsA⟩ : ∃ s, s = strOfNums LA := ⟨_, rfl⟩
  obtain ⟨sB, hsB⟩ : ∃ s, s = strOfNums LB := ⟨_, rfl⟩
  rw [← hsA] at kA ⊢
  rw [← hsB] at kB ⊢
  clear hsA hsB bA bB
  go_enter Try.func54, Try.ntmps54
  go_wp2_with fail
  go_ret
  refine ⟨?_, Below.refl _ _⟩
  show Ending.returned (.bool (sA.toList == sB.toList)) = _
  rw [bytes_beq]

set_option maxHeartbeats 400000 in
theorem isWrittenAs (w : World) {lo hi : Nat} {v : Value} {L : List Int} (h : Rd w lo hi v L) (hhi : hi ≤ w.heap.size) (hb : Byt L) {s o l r : Int} :
    Calls Try.prog 40 #[.agg #[.int .i64 s, .int .i64 o, .int .i64 l, .int .i64 r], v] w (RetV w (.bool (decide (L = headL s o l r)))) := by
  have HR := Lib.hid h
  obtain ⟨A, c, rfl, _, _, _⟩ := h
  obtain ⟨n, hn⟩ : ∃ n, n = L.length := ⟨_, rfl⟩
  rw [← hn] at HR ⊢
  clear hn
  have HC := Lib.hid (fun w' : World => headBytes w' (s := s) (o := o) (l := l) (r := r))
  have HH := Lib.hid (byt_headL s o l r)
  obtain ⟨M, hM⟩ : ∃ M, M = headL s o l r := ⟨_, rfl⟩
  rw [← hM] at HC HH ⊢
  clear hM
  go_enter Try.func40, Try.ntmps40
  go_wp2_with fail
  refine (HC.out _).mono ?_
  rintro e w1 ⟨v1, rfl, ho1, hb1⟩
  have HB : Hid (Below w.heap.size w w1) := Lib.hid (((Below.refl _ _).alloc (Nat.le_refl _) _).trans (hb1.mono (by simp)))
  have HO := Lib.hid ho1
  clear ho1 hb1
  go_wp2_with fail
  refine (bytesEqual w1 (HR.out.below HB.out) HO.out.rd hb HH.out).mono ?_
  rintro e w2 ⟨rfl, hb2⟩
  have HB2 := Lib.hid hb2
  clear hb2
  go_wp2
  go_ret
  exact ⟨rfl, below_then HB.out HB2.out (Nat.le_refl _)⟩
end Go.Proofs.Ytamgikcoknkghab.HeadI

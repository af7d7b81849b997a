/-
  The program's own chapter 1: what each of its functions hands back, in the words of Pure. Lengths to 1048576, numbers of 64 bits.
-/
import Derived.Test.YtamgikcoknkghaaLaws
import Derived.Test.YtamgikcoknkghaaPure
import Derived.Test.YtamgikcoknkghaaHelp
namespace Go.Proofs.Ytamgikcoknkghaa.FloorI
open Go.RowKit Go.Proofs.Ytamgikcoknkghaa.Mem Go.Proofs.Ytamgikcoknkghaa.Pure Go.Proofs.Ytamgikcoknkghaa.Help
set_option linter.unusedVariables false

def I64 (x : Int) : Prop := -9223372036854775808 ≤ x ∧ x ≤ 9223372036854775807
theorem sizeB : (Try.prog.info? 5).map (·.size) = some 1 := by kernel_rfl
theorem zeroB (w : World) : (zeroValue 5).run Try.prog w = .ok (.int .u8 0) w := by kernel_rfl

set_option maxHeartbeats 400000 in
theorem copied (w : World) {lo hi : Nat} {v : Value} {L : List Int} (h : Rd w lo hi v L) (hL : L.length ≤ 1048576) :
    Calls Try.prog 40 #[v] w (RetB w L) := by
  obtain ⟨i0, hi0, hz0, hz1, hz2⟩ := info_parts infoB
  have hrd := h
  obtain ⟨A, c, rfl, hc, hm, _⟩ := h
  obtain ⟨n, hn⟩ : ∃ n, n = L.length := ⟨_, rfl⟩
  have HN : Hid (n = L.length) := hn
  rw [← hn] at hL hc hrd ⊢
  clear hn hm
  go_enter Try.func40, Try.ntmps40
  go_wp2_with (at_make; refine wpList_make_full _ rfl _ _ 22 rfl w.heap.size 5 i0 (.int .u8 0) 1 Try.underlying22 hi0 hz0 hz1 .i64 .i64 _ _ n rfl rfl rfl rfl ?_ ?_ ?_ ?_)
  · rw [hz2]; omega
  · unfold maxLen; omega
  · exact Nat.le_refl _
  · intro w1 hown hg
    have hb1 : Below w.heap.size w w1 := (Below.refl _ _).grown hg (Nat.le_refl _) (fun k hk => by cases hk)
    have ho1 : Own w1 w.heap.size w1.heap.size (.slice (some ⟨w.heap.size, 0, none⟩) n n) (List.replicate n 0) :=
      own_of_row hown (by simp) ((toList_madeCells_one _ _).trans (by simp))
    have hp1 : PartIn (.slice (some ⟨w.heap.size, 0, none⟩) n n) (.slice (some ⟨w.heap.size, 0, none⟩) n n) 0 L.length :=
      ⟨_, _, _, _, _, rfl, by rw [← HN.out], by have := HN.out; omega, by unfold maxLen; omega, fun _ => by simp [Addr.add_lit]⟩
    have hr1 := hrd.below hb1
    clear hown hg
    go_wp2_with (with_reducible refine wpList_copy_b rfl _ _ 22 rfl Try.underlying22 sizeB ho1 hp1 hr1 rfl rfl ?_ ?_)
    · have := HN.out; simp; omega
    · intro w2 ho2 ht2
      have e : splice (List.replicate n (0 : Int)) 0 L = L := by
        have := HN.out
        simp [splice, List.drop_eq_nil_of_le, this]
      rw [e] at ho2
      have HO := Lib.hid ho2
      have HT := Lib.hid ht2
      clear ho2 ht2 e
      go_wp2
      go_ret
      exact ⟨_, rfl, HO.out.more (Nat.le_refl _) HT.out.size, below_touch hb1 HT.out (Nat.le_refl _) (Nat.le_refl _)⟩

set_option maxHeartbeats 400000 in
theorem allThere (w : World) {lo hi : Nat} {v : Value} {L : List Int} (h : Rd w lo hi v L) (hL : L.length ≤ 1048576) {a n : Int} (ha : I64 a) (hn : I64 n) :
    Calls Try.prog 39 #[v, .int .i64 a, .int .i64 n] w (RetV w (.bool (there L a n))) := by
  obtain ⟨A, c, rfl, hc, hm, _⟩ := h
  unfold there
  obtain ⟨l, hl⟩ : ∃ l, l = L.length := ⟨_, rfl⟩
  rw [← hl] at hL ⊢
  clear hl hm hc
  unfold I64 at ha hn
  obtain ⟨a1, a2⟩ := ha
  obtain ⟨n1, n2⟩ := hn
  by_cases h1 : l ≤ 1024
  · by_cases h2 : 0 ≤ a
    · by_cases h3 : 0 ≤ n
      · by_cases h4 : n ≤ (l : Int) - a
        · go_enter Try.func39, Try.ntmps39
          go_wp2
          go_ret
          refine ⟨?_, Below.refl _ _⟩
          rw [decide_eq_true ⟨h1, h2, h3, h4⟩]
          rfl
        · go_enter Try.func39, Try.ntmps39
          go_wp2
          go_ret
          refine ⟨?_, Below.refl _ _⟩
          first | rfl | (rw [decide_eq_false (by omega)]; rfl)
      · go_enter Try.func39, Try.ntmps39
        go_wp2
        go_ret
        refine ⟨?_, Below.refl _ _⟩
        first | rfl | (rw [decide_eq_false (by omega)]; rfl)
    · go_enter Try.func39, Try.ntmps39
      go_wp2
      go_ret
      refine ⟨?_, Below.refl _ _⟩
      first | rfl | (rw [decide_eq_false (by omega)]; rfl)
  · go_enter Try.func39, Try.ntmps39
    go_wp2
    go_ret
    refine ⟨?_, Below.refl _ _⟩
    first | rfl | (rw [decide_eq_false (by omega)]; rfl)

/-- The part of v from a on, n long. -/
def RetP (w : World) (v : Value) (a n : Nat) (e : Ending) (w' : World) : Prop := ∃ d, e = .returned d ∧ PartIn v d a n ∧ w = w'

set_option maxHeartbeats 400000 in
theorem cut (w : World) {A : Option Addr} {m c : Nat} {a n : Nat} (h3 : a + n ≤ c) (h4 : c ≤ maxLen) :
    Calls Try.prog 41 #[.slice A m c, .int .i64 a, .int .i64 n] w (RetP w (.slice A m c) a n) := by
  have h5 : a + n ≤ 9223372036854775807 := by unfold maxLen at h4; omega
  have h6 : n ≤ maxLen := by omega
  clear h4
  by_cases h0 : n = 0
  · subst h0
    go_enter Try.func41, Try.ntmps41
    go_wp2
    go_ret
    exact ⟨_, rfl, ⟨_, _, _, _, _, rfl, rfl, Nat.le_refl _, h6, fun h => absurd h (by omega)⟩, rfl⟩
  · have h7 : ¬ a + n = a := by omega
    go_enter Try.func41, Try.ntmps41
    go_wp2
    go_ret
    exact ⟨Value.slice (A.map (·.add a)) (a + n - a) (a + n - a), rfl, ⟨A, m, c, A.map (·.add a), a + n - a, rfl, by rw [show a + n - a = n by omega], by omega, by omega, fun h => rfl⟩, rfl⟩
theorem cutI (w : World) {A : Option Addr} {m c : Nat} {x y : Int} (a n : Nat) (hx : x = a) (hy : y = n) (h3 : a + n ≤ c) (h4 : c ≤ maxLen) :
    Calls Try.prog 41 #[.slice A m c, .int .i64 x, .int .i64 y] w (RetP w (.slice A m c) a n) := by
  subst hx hy
  exact cut w h3 h4

theorem there_nat {L : List Int} {a n : Int} (h : there L a n = true) : ∃ k m : Nat, a = k ∧ n = m ∧ k + m ≤ L.length ∧ L.length ≤ 1024 := by
  have := there_iff.1 h
  exact ⟨a.toNat, n.toNat, by omega, by omega, by omega, by omega⟩

/-- An empty slice that is made by a literal. -/
theorem own_made (w : World) (lo : Nat) (h : lo ≤ w.heap.size) : Own (w.alloc (.cells #[] 5)) lo (w.alloc (.cells #[] 5)).heap.size (.slice (some ⟨w.heap.size, 0, none⟩) 0 0) [] :=
  .inr ⟨w.heap.size, 0, #[], rfl, h, by simp, heap_alloc_new w _, Nat.le_refl _, Nat.zero_le _, rfl, rfl⟩

set_option maxHeartbeats 400000 in
theorem partOf (w : World) {lo hi : Nat} {v : Value} {L : List Int} (h : Rd w lo hi v L) (hL : L.length ≤ 1048576) {a n : Int} (ha : I64 a) (hn : I64 n) :
    Calls Try.prog 11 #[v, .int .i64 a, .int .i64 n] w (RetBB w (partL L a n) (there L a n)) := by
  have HQ := Lib.hid (fun w' (hb : Below w.heap.size w w') => allThere w' (h.below hb) hL ha hn)
  unfold partL
  by_cases hth : there L a n = true
  · obtain ⟨k, m, rfl, rfl, h1, h2⟩ := there_nat hth
    have hpl := part_length hth
    rw [hth] at HQ ⊢
    clear hth
    rw [if_pos rfl]
    have HR := Lib.hid h
    obtain ⟨A, c, rfl, hc, hm, _⟩ := h
    have hc1 : k + m ≤ c := by omega
    have HM := Lib.hid hm
    clear hm hc
    go_enter Try.func11, Try.ntmps11
    go_wp2_with (go_at_call 39; refine (HQ.out _ (Below.refl _ _)).mono ?_; rintro e w1 ⟨rfl, hb1⟩)
    refine (cut w1 hc1 HM.out).mono ?_
    rintro e w2 ⟨d, rfl, hp, rfl⟩
    have HP := Lib.hid hp
    clear hp
    go_wp2_with fail
    have hr1 : Rd w1 lo hi d (piece L k m) := by
      have := (HR.out.below hb1).part HP.out h1
      simpa [piece] using this
    refine (copied w1 hr1 (by simp at hpl; omega)).mono ?_
    rintro e w3 ⟨d3, rfl, ho3, hb3⟩
    have HO := Lib.hid ho3
    clear ho3 hr1 hpl
    go_wp2
    go_ret2
    exact ⟨_, rfl, HO.out.more hb1.size (Nat.le_refl _), below_then hb1 hb3 (Nat.le_refl _)⟩
  · have hth' : there L a n = false := by simpa using hth
    rw [hth'] at HQ ⊢
    clear hth hth'
    rw [if_neg (by simp)]
    go_enter Try.func11, Try.ntmps11
    go_wp2_with (go_at_call 39; refine (HQ.out _ (Below.refl _ _)).mono ?_; rintro e w1 ⟨rfl, hb1⟩)
    go_ret2
    exact ⟨_, rfl, own_made w1 _ hb1.size, hb1.alloc hb1.size _⟩

set_option maxHeartbeats 400000 in
theorem laid (w : World) {lo hi lo2 hi2 : Nat} {v vd : Value} {L M : List Int} (h : Rd w lo hi v L) (hd : Rd w lo2 hi2 vd M) (hL : L.length ≤ 1048576) (hM : M.length ≤ 1048576) {a : Int} (ha : I64 a) :
    Calls Try.prog 14 #[v, .int .i64 a, vd] w (RetBB w (laidL L a M) (there L a M.length)) := by
  have HQ := Lib.hid (fun w' (hb : Below w.heap.size w w') => allThere w' (h.below hb) hL ha (show I64 (M.length : Int) by unfold I64; omega))
  have HC := Lib.hid (copied w h hL)
  have HD := Lib.hid hd
  obtain ⟨D, dc, rfl, hdc, hdm, _⟩ := hd
  obtain ⟨l, hl⟩ : ∃ l, l = M.length := ⟨_, rfl⟩
  have HL := Lib.hid hl
  unfold laidL
  rw [← hl] at HQ hM HD ⊢
  clear hl hdc hdm
  by_cases hth : there L a l = true
  · obtain ⟨k, m, rfl, hm, h1, h2⟩ := there_nat hth
    obtain rfl : l = m := by omega
    rw [hth] at HQ ⊢
    clear hth hm
    rw [if_pos rfl]
    go_enter Try.func14, Try.ntmps14
    go_wp2_with fail
    refine HC.out.mono ?_
    rintro e w1 ⟨v1, rfl, ho1, hb1⟩
    have HO1 := Lib.hid ho1
    obtain ⟨A1, c1, rfl, hc1, hm1, _⟩ := ho1.rd
    have hc2 : k + l ≤ c1 := by omega
    have HM1 := Lib.hid hm1
    clear ho1 hm1 hc1
    go_wp2_with (go_at_call 39; refine (HQ.out _ hb1).mono ?_; rintro e w2 ⟨rfl, hb2⟩)
    refine (cut w2 hc2 HM1.out).mono ?_
    rintro e w3 ⟨d, rfl, hp, rfl⟩
    have ho2 := HO1.out.below hb2
    have hd2 := (HD.out.below hb1).below hb2
    rw [HL.out] at hp
    clear hc2
    go_wp2_with (with_reducible refine wpList_copy_b rfl _ _ 22 rfl Try.underlying22 sizeB ho2 hp hd2 rfl rfl ?_ ?_)
    · have := HL.out; omega
    · intro w4 ho4 ht4
      have HO := Lib.hid ho4
      have HT := Lib.hid ht4
      have HB := Lib.hid (below_then hb1 hb2 (Nat.le_refl _))
      have HS := Lib.hid hb2.size
      clear ho4 ht4 ho2 hd2 hp hb2 hb1
      go_wp2
      go_ret2
      exact ⟨_, rfl, HO.out.more (Nat.le_refl _) (Nat.le_trans HS.out HT.out.size), below_touch HB.out HT.out (Nat.le_refl _) (Nat.le_refl _)⟩
  · have hth' : there L a l = false := by simpa using hth
    rw [hth'] at HQ ⊢
    clear hth hth'
    rw [if_neg (by simp)]
    go_enter Try.func14, Try.ntmps14
    go_wp2_with fail
    refine HC.out.mono ?_
    rintro e w1 ⟨v1, rfl, ho1, hb1⟩
    have HO1 := Lib.hid ho1
    clear ho1
    go_wp2_with (go_at_call 39; refine (HQ.out _ hb1).mono ?_; rintro e w2 ⟨rfl, hb2⟩)
    go_ret2
    exact ⟨_, rfl, (HO1.out.below hb2).more (Nat.le_refl _) hb2.size, below_then hb1 hb2 (Nat.le_refl _)⟩

set_option maxHeartbeats 400000 in
theorem wiped (w : World) {lo hi : Nat} {v : Value} {L : List Int} (h : Rd w lo hi v L) (hL : L.length ≤ 1048576) {a n : Int} (ha : I64 a) (hn : I64 n) :
    Calls Try.prog 19 #[v, .int .i64 a, .int .i64 n] w (RetBB w (wipedL L a n) (there L a n)) := by
  have HQ := Lib.hid (fun w' (hb : Below w.heap.size w w') => allThere w' (h.below hb) hL ha hn)
  have HC := Lib.hid (copied w h hL)
  unfold wipedL
  by_cases hth : there L a n = true
  · obtain ⟨k, m, rfl, rfl, h1, h2⟩ := there_nat hth
    rw [hth] at HQ ⊢
    clear hth
    rw [if_pos rfl]
    go_enter Try.func19, Try.ntmps19
    go_wp2_with fail
    refine HC.out.mono ?_
    rintro e w1 ⟨v1, rfl, ho1, hb1⟩
    have HO1 := Lib.hid ho1
    obtain ⟨A1, c1, rfl, hc1, hm1, _⟩ := ho1.rd
    have hc2 : k + m ≤ c1 := by omega
    have HM1 := Lib.hid hm1
    clear ho1 hm1 hc1
    go_wp2_with (go_at_call 39; refine (HQ.out _ hb1).mono ?_; rintro e w2 ⟨rfl, hb2⟩)
    refine (cut w2 hc2 HM1.out).mono ?_
    rintro e w3 ⟨d, rfl, hp, rfl⟩
    have ho2 := HO1.out.below hb2
    clear hc2
    go_wp2_with (with_reducible refine wpList_clear_b rfl _ 22 rfl Try.underlying22 zeroB ho2 hp rfl ?_ ?_)
    · omega
    · intro w4 ho4 ht4
      have HO := Lib.hid ho4
      have HT := Lib.hid ht4
      have HB := Lib.hid (below_then hb1 hb2 (Nat.le_refl _))
      have HS := Lib.hid hb2.size
      clear ho4 ht4 ho2 hp hb2 hb1
      go_wp2
      go_ret2
      exact ⟨_, rfl, HO.out.more (Nat.le_refl _) (Nat.le_trans HS.out HT.out.size), below_touch HB.out HT.out (Nat.le_refl _) (Nat.le_refl _)⟩
  · have hth' : there L a n = false := by simpa using hth
    rw [hth'] at HQ ⊢
    clear hth hth'
    rw [if_neg (by simp)]
    go_enter Try.func19, Try.ntmps19
    go_wp2_with fail
    refine HC.out.mono ?_
    rintro e w1 ⟨v1, rfl, ho1, hb1⟩
    have HO1 := Lib.hid ho1
    clear ho1
    go_wp2_with (go_at_call 39; refine (HQ.out _ hb1).mono ?_; rintro e w2 ⟨rfl, hb2⟩)
    go_ret2
    exact ⟨_, rfl, (HO1.out.below hb2).more (Nat.le_refl _) hb2.size, below_then hb1 hb2 (Nat.le_refl _)⟩

set_option maxHeartbeats 400000 in
theorem pushed_no (w : World) {lo hi : Nat} {v : Value} {L : List Int} (h : Rd w lo hi v L) (hL : L.length ≤ 1048576) {f t n : Int} (hf : I64 f) (ht : I64 t) (hn : I64 n) (hth : pushB L f t n = false) :
    Calls Try.prog 17 #[v, .int .i64 f, .int .i64 t, .int .i64 n] w (RetBB w L false) := by
  have HQ := Lib.hid (fun w' (hb : Below w.heap.size w w') => allThere w' (h.below hb) hL hf hn)
  have HC := Lib.hid (copied w h hL)
  have fin : ∀ (v1 : Value) (w1 w2 : World), Own w1 w.heap.size w1.heap.size v1 L → Below w.heap.size w w1 → Below w1.heap.size w1 w2 → RetBB w L false (.returned (.tuple #[v1, .bool false])) w2 :=
    fun v1 w1 w2 ho1 hb1 hb2 => ⟨_, rfl, (ho1.below hb2).more (Nat.le_refl _) hb2.size, below_then hb1 hb2 (Nat.le_refl _)⟩
  have HF := Lib.hid fin
  obtain ⟨t1, t2⟩ := ht
  obtain ⟨f1, f2⟩ := hf
  unfold pushB at hth
  clear fin
  by_cases h1 : there L f n = true
  · rw [h1] at HQ hth
    have h3 : ¬ (0 ≤ t ∧ t ≤ f) := by simpa using hth
    clear h1 hth
    by_cases h4 : t < 0
    all_goals
      go_enter Try.func17, Try.ntmps17
      go_wp2_with fail
      refine HC.out.mono ?_
      rintro e w1 ⟨v1, rfl, ho1, hb1⟩
      have HO1 := Lib.hid ho1
      have HB1 := Lib.hid hb1
      clear ho1
      go_wp2_with (go_at_call 39; refine (HQ.out _ hb1).mono ?_; rintro e w2 ⟨rfl, hb2⟩)
      go_ret2
      exact HF.out _ _ _ HO1.out HB1.out hb2
  · have h1' : there L f n = false := by simpa using h1
    rw [h1'] at HQ
    clear h1 hth h1'
    go_enter Try.func17, Try.ntmps17
    go_wp2_with fail
    refine HC.out.mono ?_
    rintro e w1 ⟨v1, rfl, ho1, hb1⟩
    have HO1 := Lib.hid ho1
    have HB1 := Lib.hid hb1
    clear ho1
    go_wp2_with (go_at_call 39; refine (HQ.out _ hb1).mono ?_; rintro e w2 ⟨rfl, hb2⟩)
    go_ret2
    exact HF.out _ _ _ HO1.out HB1.out hb2

set_option maxHeartbeats 400000 in
theorem pushed_yes (w : World) {lo hi : Nat} {v : Value} {L : List Int} (h : Rd w lo hi v L) (hL : L.length ≤ 1048576) {f t n : Int} (hf : I64 f) (ht : I64 t) (hn : I64 n) (hth : pushB L f t n = true) :
    Calls Try.prog 17 #[v, .int .i64 f, .int .i64 t, .int .i64 n] w (RetBB w (push L f t n) true) := by
  have HQ := Lib.hid (fun w' (hb : Below w.heap.size w w') => allThere w' (h.below hb) hL hf hn)
  have HC := Lib.hid (copied w h hL)
  have HE := Lib.hid (push_eq hth)
  unfold pushB at hth
  rw [Bool.and_eq_true, decide_eq_true_eq] at hth
  obtain ⟨h1, h2, h3⟩ := hth
  obtain ⟨F, N, rfl, rfl, h4, h5⟩ := there_nat h1
  obtain ⟨T, rfl⟩ : ∃ T : Nat, t = T := ⟨t.toNat, by omega⟩
  have hpl := part_length h1
  rw [h1] at HQ
  clear h1
  obtain ⟨X, hX⟩ : ∃ X : Nat, X = max F (T + N) := ⟨_, rfl⟩
  have hX1 : X ≤ F + N ∧ F ≤ X ∧ T + N ≤ X := by omega
  have eX : (max (F : Int) ((T : Int) + N)) = (X : Int) := by omega
  rw [eX] at HE
  have HX := Lib.hid eX
  simp only [Int.toNat_natCast] at hpl HE
  rw [show ((F : Int) + N - X).toNat = F + N - X by omega] at HE
  have HR := Lib.hid h
  obtain ⟨A, c, rfl, hc, hm, _⟩ := h
  have hc0 : F + N ≤ c := by omega
  have HM := Lib.hid hm
  have HPL := Lib.hid hpl
  clear hm hc hX eX hpl
  go_enter Try.func17, Try.ntmps17
  go_wp2_with fail
  refine HC.out.mono ?_
  rintro e w1 ⟨v1, rfl, ho1, hb1⟩
  have HO1 := Lib.hid ho1
  have HB1 := Lib.hid hb1
  obtain ⟨A1, c1, rfl, hc1, hm1, _⟩ := ho1.rd
  have hc2 : F + N ≤ c1 := by omega
  have HM1 := Lib.hid hm1
  clear ho1 hm1 hc1
  go_wp2_with (go_at_call 39; refine (HQ.out _ hb1).mono ?_; rintro e w2 ⟨rfl, hb2⟩)
  refine (cut w2 (a := T) (n := N) (show T + N ≤ c1 by omega) HM1.out).mono ?_
  rintro e w3 ⟨d, rfl, hp, rfl⟩
  have HP := Lib.hid hp
  clear hp
  go_wp2_with fail
  refine (cut w2 hc0 HM.out).mono ?_
  rintro e w3 ⟨d2, rfl, hp2, rfl⟩
  have ho2 := HO1.out.below hb2
  have hr2 := ((HR.out.below hb1).below hb2).part hp2 h4
  have hp := HP.out
  have hpl : (List.take N (List.drop F L)).length = N := HPL.out
  rw [← hpl] at hp
  clear hp2
  go_wp2_with (with_reducible refine wpList_copy_b rfl _ _ 22 rfl Try.underlying22 sizeB ho2 hp hr2 rfl rfl ?_ ?_)
  · have := HPL.out; simp [piece] at this; omega
  · intro w4 ho4 ht4
    have HO := Lib.hid ho4
    have HT := Lib.hid ht4
    have HB := Lib.hid (below_then hb1 hb2 (Nat.le_refl _))
    have HS := Lib.hid hb2.size
    clear ho4 ht4 ho2 hp hr2 hpl hb2 hb1
    by_cases hmx : F < T + N
    all_goals
      go_wp2_with fail
      refine (cutI w4 X (F + N - X) (by have := HX.out; omega) (by have := HX.out; omega) (by omega) HM1.out).mono ?_
      rintro e w5 ⟨d3, rfl, hp3, rfl⟩
      have ho4 := HO.out
      go_wp2_with (with_reducible refine wpList_clear_b rfl _ 22 rfl Try.underlying22 zeroB ho4 hp3 rfl ?_ ?_)
      · rw [splice_length (by have := HPL.out; simp [piece] at this; simp; omega)]
        omega
      · intro w6 ho6 ht6
        have HO6 := Lib.hid ho6
        have HT6 := Lib.hid ht6
        clear ho6 ht6 ho4 hp3
        go_wp2
        go_ret2
        have ho := HO6.out
        have he := HE.out
        simp only [piece, Int.toNat_natCast] at he
        rw [he] at ho
        exact ⟨_, rfl, ho.more (Nat.le_refl _) (Nat.le_trans HS.out (Nat.le_trans HT.out.size HT6.out.size)), below_touch (below_touch HB.out HT.out (Nat.le_refl _) (Nat.le_refl _)) HT6.out (Nat.le_refl _) (Nat.le_refl _)⟩

theorem pushed (w : World) {lo hi : Nat} {v : Value} {L : List Int} (h : Rd w lo hi v L) (hL : L.length ≤ 1048576) {f t n : Int} (hf : I64 f) (ht : I64 t) (hn : I64 n) :
    Calls Try.prog 17 #[v, .int .i64 f, .int .i64 t, .int .i64 n] w (RetBB w (pushedL L f t n) (pushB L f t n)) := by
  unfold pushedL
  by_cases hth : pushB L f t n = true
  · rw [if_pos hth]
    have := pushed_yes w h hL hf ht hn hth
    rw [hth]
    exact this
  · rw [if_neg hth]
    have hth' : pushB L f t n = false := by simpa using hth
    have := pushed_no w h hL hf ht hn hth'
    rw [hth']
    exact this
end Go.Proofs.Ytamgikcoknkghaa.FloorI

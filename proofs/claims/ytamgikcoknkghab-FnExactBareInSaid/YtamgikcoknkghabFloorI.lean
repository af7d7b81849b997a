/-
  The program's own chapter 1: what each of its functions hands back, in the words of Pure. Lengths to 1048576, numbers of 64 bits.
-/
import Derived.Test.YtamgikcoknkghabLaws
import Derived.Test.YtamgikcoknkghabPure
import Derived.Test.YtamgikcoknkghabHelp
namespace Go.Proofs.Ytamgikcoknkghab.FloorI
open Go.RowKit Go.Proofs.Ytamgikcoknkghab.Mem Go.Proofs.Ytamgikcoknkghab.Pure Go.Proofs.Ytamgikcoknkghab.Help
set_option linter.unusedVariables false

def I64 (x : Int) : Prop := -9223372036854775808 ≤ x ∧ x ≤ 9223372036854775807
theorem sizeB : (Try.prog.info? 5).map (·.size) = some 1 := by kernel_rfl
theorem zeroB (w : World) : (zeroValue 5).run Try.prog w = .ok (.int .u8 0) w := by kernel_rfl

set_option maxHeartbeats 400000 in
theorem copied (w : World) {lo hi : Nat} {v : Value} {L : List Int} (h : Rd w lo hi v L) (hL : L.length ≤ 1048576) :
    Calls Try.prog 53 #[v] w (RetB w L) := by
  obtain ⟨i0, hi0, hz0, hz1, hz2⟩ := info_parts infoB
  have hrd := h
  obtain ⟨A, c, rfl, hc, hm, _⟩ := h
  obtain ⟨n, hn⟩ : ∃ n, n = L.length := ⟨_, rfl⟩
  have HN : Hid (n = L.length) := hn
  rw [← hn] at hL hc hrd ⊢
  clear hn hm
  go_enter Try.func53, Try.ntmps53
  go_wp2_with (at_make; refine wpList_make_full _ rfl _ _ 28 rfl w.heap.size 5 i0 (.int .u8 0) 1 Try.underlying28 hi0 hz0 hz1 .i64 .i64 _ _ n rfl rfl rfl rfl ?_ ?_ ?_ ?_)
  · rw [hz2]; omega
  · unfold maxLen; omega
  · exact Nat.le_refl _
  · intro w1 hown hg
    have hb1 : Below w.heap.size w w1 := (Below.refl _ _).grown hg (Nat.le_refl _) (fun k hk => by cases hk)
    have ho1 : Own w1 w.heap.size w1.heap.size (.slice (some ⟨w.heap.size, 0, none⟩) n n) (List.replicate n 0) :=
      own_of_row hown (by simp) ((toList_madeCells_one _ _).trans (by simp))
    have hp1 : PartIn (.slice (some ⟨w.heap.size, 0, none⟩) n n) (.slice (some ⟨w.heap.size, 0, none⟩) n n) 0 L.length :=
      ⟨_, _, _, _, _, rfl, by rw [← HN.out], by have := HN.out; omega, by unfold maxLen; omega, fun _ => by simp [Addr.add_lit]⟩
    have hr1 := hrd.below hb1
    clear hown hg
    go_wp2_with (with_reducible refine wpList_copy_b rfl _ _ 28 rfl Try.underlying28 sizeB ho1 hp1 hr1 rfl rfl ?_ ?_)
    · have := HN.out; simp; omega
    · intro w2 ho2 ht2
      have e : splice (List.replicate n (0 : Int)) 0 L = L := by
        have := HN.out
        simp [splice, List.drop_eq_nil_of_le, this]
      rw [e] at ho2
      have HO := Lib.hid ho2
      have HT := Lib.hid ht2
      clear ho2 ht2 e
      go_wp2
      go_ret
      exact ⟨_, rfl, HO.out.more (Nat.le_refl _) HT.out.size, below_touch hb1 HT.out (Nat.le_refl _) (Nat.le_refl _)⟩

set_option maxHeartbeats 400000 in
theorem allThere (w : World) {lo hi : Nat} {v : Value} {L : List Int} (h : Rd w lo hi v L) (hL : L.length ≤ 1048576) {a n : Int} (ha : I64 a) (hn : I64 n) :
    Calls Try.prog 41 #[v, .int .i64 a, .int .i64 n] w (RetV w (.bool (there L a n))) := by
  obtain ⟨A, c, rfl, hc, hm, _⟩ := h
  unfold there
  obtain ⟨l, hl⟩ : ∃ l, l = L.length := ⟨_, rfl⟩
  rw [← hl] at hL ⊢
  clear hl hm hc
  unfold I64 at ha hn
  obtain ⟨a1, a2⟩ := ha
  obtain ⟨n1, n2⟩ := hn
  by_cases h1 : l ≤ 1024
  · by_cases h2 : 0 ≤ a
    · by_cases h3 : 0 ≤ n
      · by_cases h4 : n ≤ (l : Int) - a
        · go_enter Try.func41, Try.ntmps41
          go_wp2
          go_ret
          refine ⟨?_, Below.refl _ _⟩
          rw [decide_eq_true ⟨h1, h2, h3, h4⟩]
          rfl
        · go_enter Try.func41, Try.ntmps41
          go_wp2
          go_ret
          refine ⟨?_, Below.refl _ _⟩
          first | rfl | (rw [decide_eq_false (by omega)]; rfl)
      · go_enter Try.func41, Try.ntmps41
        go_wp2
        go_ret
        refine ⟨?_, Below.refl _ _⟩
        first | rfl | (rw [decide_eq_false (by omega)]; rfl)
    · go_enter Try.func41, Try.ntmps41
      go_wp2
      go_ret
      refine ⟨?_, Below.refl _ _⟩
      first | rfl | (rw [decide_eq_false (by omega)]; rfl)
  · go_enter Try.func41, Try.ntmps41
    go_wp2
    go_ret
    refine ⟨?_, Below.refl _ _⟩
    first | rfl | (rw [decide_eq_false (by omega)]; rfl)

/-- The part of v from a on, n long. -/
def RetP (w : World) (v : Value) (a n : Nat) (e : Ending) (w' : World) : Prop := ∃ d, e = .returned d ∧ PartIn v d a n ∧ w = w'

set_option maxHeartbeats 400000 in
theorem cut (w : World) {A : Option Addr} {m c : Nat} {a n : Nat} (h3 : a + n ≤ c) (h4 : c ≤ maxLen) :
    Calls Try.prog 48 #[.slice A m c, .int .i64 a, .int .i64 n] w (RetP w (.slice A m c) a n) := by
  have h5 : a + n ≤ 9223372036854775807 := by unfold maxLen at h4; omega
  have h6 : n ≤ maxLen := by omega
  clear h4
  by_cases h0 : n = 0
  · subst h0
    go_enter Try.func48, Try.ntmps48
    go_wp2
    go_ret
    exact ⟨_, rfl, ⟨_, _, _, _, _, rfl, rfl, Nat.le_refl _, h6, fun h => absurd h (by omega)⟩, rfl⟩
  · have h7 : ¬ a + n = a := by omega
    go_enter Try.func48, Try.ntmps48
    go_wp2
    go_ret
    exact ⟨Value.slice (A.map (·.add a)) (a + n - a) (a + n - a), rfl, ⟨A, m, c, A.map (·.add a), a + n - a, rfl, by rw [show a + n - a = n by omega], by omega, by omega, fun h => rfl⟩, rfl⟩
theorem cutI (w : World) {A : Option Addr} {m c : Nat} {x y : Int} (a n : Nat) (hx : x = a) (hy : y = n) (h3 : a + n ≤ c) (h4 : c ≤ maxLen) :
    Calls Try.prog 48 #[.slice A m c, .int .i64 x, .int .i64 y] w (RetP w (.slice A m c) a n) := by
  subst hx hy
  exact cut w h3 h4

theorem there_nat {L : List Int} {a n : Int} (h : there L a n = true) : ∃ k m : Nat, a = k ∧ n = m ∧ k + m ≤ L.length ∧ L.length ≤ 1024 := by
  have := there_iff.1 h
  exact ⟨a.toNat, n.toNat, by omega, by omega, by omega, by omega⟩

/-- An empty slice that is made by a literal. -/
theorem own_made (w : World) (lo : Nat) (h : lo ≤ w.heap.size) : Own (w.alloc (.cells #[] 5)) lo (w.alloc (.cells #[] 5)).heap.size (.slice (some ⟨w.heap.size, 0, none⟩) 0 0) [] :=
  .inr ⟨w.heap.size, 0, #[], rfl, h, by simp, heap_alloc_new w _, Nat.le_refl _, Nat.zero_le _, rfl, rfl⟩

set_option maxHeartbeats 400000 in
theorem partOf (w : World) {lo hi : Nat} {v : Value} {L : List Int} (h : Rd w lo hi v L) (hL : L.length ≤ 1048576) {a n : Int} (ha : I64 a) (hn : I64 n) :
    Calls Try.prog 38 #[v, .int .i64 a, .int .i64 n] w (RetBB w (partL L a n) (there L a n)) := by
  have HQ := Lib.hid (fun w' (hb : Below w.heap.size w w') => allThere w' (h.below hb) hL ha hn)
  unfold partL
  by_cases hth : there L a n = true
  · obtain ⟨k, m, rfl, rfl, h1, h2⟩ := there_nat hth
    have hpl := part_length hth
    rw [hth] at HQ ⊢
    clear hth
    rw [if_pos rfl]
    have HR := Lib.hid h
    obtain ⟨A, c, rfl, hc, hm, _⟩ := h
    have hc1 : k + m ≤ c := by omega
    have HM := Lib.hid hm
    clear hm hc
    go_enter Try.func38, Try.ntmps38
    go_wp2_with (go_at_call 41; refine (HQ.out _ (Below.refl _ _)).mono ?_; rintro e w1 ⟨rfl, hb1⟩)
    refine (cut w1 hc1 HM.out).mono ?_
    rintro e w2 ⟨d, rfl, hp, rfl⟩
    have HP := Lib.hid hp
    clear hp
    go_wp2_with fail
    have hr1 : Rd w1 lo hi d (piece L k m) := by
      have := (HR.out.below hb1).part HP.out h1
      simpa [piece] using this
    refine (copied w1 hr1 (by simp at hpl; omega)).mono ?_
    rintro e w3 ⟨d3, rfl, ho3, hb3⟩
    have HO := Lib.hid ho3
    clear ho3 hr1 hpl
    go_wp2
    go_ret2
    exact ⟨_, rfl, HO.out.more hb1.size (Nat.le_refl _), below_then hb1 hb3 (Nat.le_refl _)⟩
  · have hth' : there L a n = false := by simpa using hth
    rw [hth'] at HQ ⊢
    clear hth hth'
    rw [if_neg (by simp)]
    go_enter Try.func38, Try.ntmps38
    go_wp2_with (go_at_call 41; refine (HQ.out _ (Below.refl _ _)).mono ?_; rintro e w1 ⟨rfl, hb1⟩)
    go_ret2
    exact ⟨_, rfl, own_made w1 _ hb1.size, hb1.alloc hb1.size _⟩

end Go.Proofs.Ytamgikcoknkghab.FloorI

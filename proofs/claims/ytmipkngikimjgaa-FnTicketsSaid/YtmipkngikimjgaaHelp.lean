/-
  The laws' own helpers on byte slices: toByteS copies, eqByteS compares, markByteS writes marks, heldByteS asks for them. Lengths to 1048576.
-/
import Derived.Test.YtmipkngikimjgaaMem
import Derived.Test.YtmipkngikimjgaaProg
import Derived.Deep.QuietTactic
import Derived.BigQuiet
import Derived.Lib.Hide
namespace Go.Proofs.Ytmipkngikimjgaa.Help
open Go.RowKit Go.Proofs.Ytmipkngikimjgaa.Mem
set_option linter.unusedVariables false

theorem infoB : (Try.prog.info? 5).map (fun i => (i.zero, i.size, i.bytes)) = some (some (.int .u8 0), 1, 1) := by kernel_rfl

theorem int_eq {k : IntKind} {a b : Int} (h : a = b) : Value.int k a = .int k b := by rw [h]

set_option maxHeartbeats 400000 in
theorem toByteS (w : World) {lo hi : Nat} {v : Value} {L : List Int} (h : Rd w lo hi v L) (hL : L.length ≤ 1048576) :
    Calls Try.prog 72 #[v] w (RetB w L) := by
  obtain ⟨i0, hi0, hz0, hz1, hz2⟩ := info_parts infoB
  have hrd := h
  obtain ⟨A, c, rfl, hc, hm, _⟩ := h
  obtain ⟨n, hn⟩ : ∃ n, n = L.length := ⟨_, rfl⟩
  have HN : Hid (n = L.length) := hn
  rw [← hn] at hL hc hrd ⊢
  clear hn hm
  go_enter Try.func72, Try.ntmps72
  go_wp2_with (at_make; refine wpList_make_full _ rfl _ _ 22 rfl w.heap.size 5 i0 (.int .u8 0) 1 Try.underlying22 hi0 hz0 hz1 .i64 .i64 _ _ n rfl rfl rfl rfl ?_ ?_ ?_ ?_)
  · rw [hz2]; omega
  · unfold maxLen; omega
  · exact Nat.le_refl _
  · intro w1 hown hg
    have hb1 : Below w.heap.size w w1 := (Below.refl _ _).grown hg (Nat.le_refl _) (fun k hk => by cases hk)
    have ho1 : Own w1 w.heap.size w1.heap.size (.slice (some ⟨w.heap.size, 0, none⟩) n n) (L.take 0 ++ List.replicate (n - 0) 0) := by
      refine own_of_row hown (by simp) ?_
      exact (toList_madeCells_one _ _).trans (by simp)
    clear hown hg
    go_wp2_with fail
    go_loopw [4] (fun i wr => ∃ k : Nat, k ≤ n ∧ i = .int .i64 k ∧ Hid (Own wr w.heap.size w1.heap.size (.slice (some ⟨w.heap.size, 0, none⟩) n n) (L.take k ++ List.replicate (n - k) 0)) ∧ Below w.heap.size w wr ∧ Hid (w1.heap.size ≤ wr.heap.size))
      (fun i _ => n - (intOf i).toNat)
    case atStart => exact ⟨0, Nat.zero_le _, rfl, ho1, hb1, Nat.le_refl _⟩
    case round =>
      obtain ⟨k, hk, rfl, ho, hb, hz⟩ := hrel
      by_cases hlt : k < n
      · obtain ⟨b, o, hA, _, _, hck⟩ := (hrd.below hb).spot (k := k) (by have := HN.out; omega)
        subst hA
        obtain ⟨x, hx⟩ : ∃ x, x = L.getD k 0 := ⟨_, rfl⟩
        rw [← hx] at hck
        have HX : Hid (x = L.getD k 0) := hx
        clear hx
        obtain ⟨g, hg1, _, _, hgc, hgf, hgs⟩ := ho.out.put (k := k) (by have := HN.out; simp; omega)
        injection hg1 with hg1
        injection hg1 with hg1
        subst hg1
        have hgc' : ∃ y, wr.cell? ⟨w.heap.size, k, none⟩ = some (.int .u8 y) := ⟨_, hgc⟩
        obtain ⟨y, hgc'⟩ := hgc'
        obtain ⟨hs1, hs2⟩ := hgs x
        have HS : Hid (Own (wr.setCell ⟨w.heap.size, k, none⟩ (.int .u8 x)) w.heap.size w1.heap.size (.slice (some ⟨w.heap.size, 0, none⟩) n n) (L.take (k + 1) ++ List.replicate (n - (k + 1)) 0)) := by
          have := fill_step L k (by have := HN.out; omega) 0
          rw [← HN.out, ← HX.out] at this
          rw [← this]
          exact hs1
        have HT := Lib.hid hs2
        clear hgs hs1 hs2 hgc ho
        go_wp2
        go_roundw
        case rel => exact ⟨k + 1, by omega, by go_num, HS, below_touch hb HT.out (Nat.le_refl _) (Nat.le_refl _), Nat.le_trans hz.out HT.out.size⟩
        case measure => simp [intOf]; omega
      · obtain rfl : k = n := by omega
        go_wp2
        go_ret
        refine ⟨_, rfl, ?_, hb⟩
        have := ho.out
        rw [Nat.sub_self, List.replicate_zero, List.append_nil, List.take_of_length_le (by have := HN.out; omega)] at this
        exact this.more (Nat.le_refl _) hz.out

theorem take_step {LA LB : List Int} {k : Nat} (hl : LA.length = LB.length) (hk : k < LA.length) (h : LA.take k = LB.take k) (hx : LA.getD k 0 = LB.getD k 0) : LA.take (k + 1) = LB.take (k + 1) := by
  rw [List.take_succ_eq_append_getElem hk, List.take_succ_eq_append_getElem (show k < LB.length by omega), h]
  rw [List.getD_eq_getElem?_getD, List.getElem?_eq_getElem hk, List.getD_eq_getElem?_getD, List.getElem?_eq_getElem (by omega)] at hx
  rw [show LA[k] = LB[k]'(by omega) from hx]
theorem ne_at {LA LB : List Int} {k : Nat} (hx : ¬ LA.getD k 0 = LB.getD k 0) : decide (LA = LB) = false := by
  simp only [decide_eq_false_iff_not]
  rintro rfl
  exact hx rfl

set_option maxHeartbeats 400000 in
theorem eqByteS (w : World) {la ha lb hb : Nat} {va vb : Value} {LA LB : List Int} (hA : Rd w la ha va LA) (hB : Rd w lb hb vb LB) :
    Calls Try.prog 74 #[va, vb] w (RetV w (.bool (decide (LA = LB)))) := by
  have hrA := hA
  have hrB := hB
  obtain ⟨A, ca, rfl, hca, hma, _⟩ := hA
  obtain ⟨B, cb, rfl, hcb, hmb, _⟩ := hB
  obtain ⟨n, hn⟩ : ∃ n, n = LA.length := ⟨_, rfl⟩
  obtain ⟨m, hm⟩ : ∃ m, m = LB.length := ⟨_, rfl⟩
  have HN : Hid (n = LA.length) := hn
  have HM : Hid (m = LB.length) := hm
  rw [← hn] at hca hrA ⊢
  rw [← hm] at hcb hrB ⊢
  have hnm : n ≤ 9223372036854775807 := by unfold maxLen at hma; omega
  clear hn hm hma hmb hca hcb
  by_cases hl : n = m
  · subst hl
    go_enter Try.func74, Try.ntmps74
    go_wp2_with fail
    go_loopw [5] (fun i wr => ∃ k : Nat, k ≤ n ∧ i = .int .i64 k ∧ Hid (LA.take k = LB.take k) ∧ Below w.heap.size w wr) (fun i _ => n - (intOf i).toNat)
    case atStart => exact ⟨0, Nat.zero_le _, rfl, (show _ = _ from rfl), Below.refl _ _⟩
    case round =>
      obtain ⟨k, hk, rfl, ho, hb⟩ := hrel
      by_cases hlt : k < n
      · obtain ⟨b, o, hA, _, _, hck⟩ := (hrA.below hb).spot (k := k) (by have := HN.out; omega)
        subst hA
        obtain ⟨x, hx⟩ : ∃ x, x = LA.getD k 0 := ⟨_, rfl⟩
        rw [← hx] at hck
        have HX : Hid (x = LA.getD k 0) := hx
        clear hx
        obtain ⟨b2, o2, hA, _, _, hck2⟩ := (hrB.below hb).spot (k := k) (by have := HM.out; omega)
        subst hA
        obtain ⟨y, hy⟩ : ∃ y, y = LB.getD k 0 := ⟨_, rfl⟩
        rw [← hy] at hck2
        have HY : Hid (y = LB.getD k 0) := hy
        clear hy
        by_cases hxy : x = y
        · subst hxy
          go_wp2_with fail
          go_quiet (fail)
          go_wp2_with fail
          go_roundw
          case rel => exact ⟨k + 1, by omega, by go_num, take_step (by have := HN.out; have := HM.out; omega) (by have := HN.out; omega) ho.out (HX.out.symm.trans HY.out), drawn hb⟩
          case measure => simp [intOf]; omega
        · have hxy' : (x != y) = true := by simpa using hxy
          go_wp2_with fail
          go_quiet (fail)
          go_wp2_with fail
          go_ret
          refine ⟨?_, drawn hb⟩
          rw [ne_at (fun e => hxy (HX.out.trans (e.trans HY.out.symm)))]
          rfl
      · obtain rfl : k = n := by omega
        go_wp2
        go_ret
        refine ⟨?_, hb⟩
        have := ho.out
        rw [List.take_of_length_le (by have := HN.out; omega), List.take_of_length_le (by have := HM.out; omega)] at this
        simp [this]
  · have hl' : ((n : Int) == (m : Int)) = false := by rw [beq_eq_false_iff_ne]; omega
    have hd : decide (LA = LB) = false := by
      simp only [decide_eq_false_iff_not]
      rintro rfl
      exact hl (HN.out.trans HM.out.symm)
    rw [hd]
    clear hd
    go_enter Try.func74, Try.ntmps74
    go_wp2
    go_ret
    exact ⟨rfl, Below.refl _ _⟩

theorem same (w : World) {la ha lb hb : Nat} {va vb : Value} {L : List Int} (hA : Rd w la ha va L) (hB : Rd w lb hb vb L) :
    Calls Try.prog 74 #[va, vb] w (RetV w (.bool true)) := by
  have := eqByteS w hA hB
  rwa [decide_eq_true rfl] at this

set_option maxHeartbeats 400000 in
theorem markByteS (w : World) {lo hi : Nat} {v : Value} {L : List Int} {s : Nat} (h : Own w lo hi v L) (hL : L.length ≤ 1048576) (hs : s ≤ 1048576000) :
    Calls Try.prog 63 #[v, .int .i64 s] w (fun e w' => e = .returned (.int .i64 ((s + L.length : Nat) : Int)) ∧ Own w' lo hi v (marks s L.length) ∧ OnlyIn lo hi w w') := by
  have ho := h
  obtain ⟨A, c, rfl, hc, hm, _⟩ := h.rd
  obtain ⟨n, hn⟩ : ∃ n, n = L.length := ⟨_, rfl⟩
  have HN : Hid (n = L.length) := hn
  rw [← hn] at hL hc ho ⊢
  clear hn hm h
  go_enter Try.func63, Try.ntmps63
  go_wp2_with fail
  go_loopw [1, 5] (fun t i wr => ∃ k : Nat, k ≤ n ∧ i = .int .i64 k ∧ t = .int .i64 ((s + k : Nat) : Int) ∧ Hid (Own wr lo hi (.slice A n c) (marks s k ++ L.drop k)) ∧ Hid (OnlyIn lo hi w wr))
    (fun _ i _ => n - (intOf i).toNat)
  case atStart => exact ⟨0, Nat.zero_le _, rfl, rfl, ho, OnlyIn.refl _ _ _⟩
  case round =>
    obtain ⟨k, hk, rfl, rfl, ho, hb⟩ := hrel
    by_cases hlt : k < n
    · obtain ⟨g, hg1, _, _, hgc, hgf, hgs⟩ := ho.out.put (k := k) (by have := HN.out; simp [marks_length]; omega)
      subst hg1
      have hgc' : ∃ y, wr.cell? ⟨g, k, none⟩ = some (.int .u8 y) := ⟨_, hgc⟩
      obtain ⟨y, hgc'⟩ := hgc'
      obtain ⟨hs1, hs2⟩ := hgs (((s + k : Nat) : Int) % 256)
      rw [mark_step L s k (by have := HN.out; omega)] at hs1
      have HS := Lib.hid hs1
      have HT := Lib.hid hs2
      clear hgs hs1 hs2 hgc ho
      go_wp2
      go_roundw
      case rel => exact ⟨k + 1, by omega, by go_num, by go_num, HS, (hb.out.trans HT.out)⟩
      case measure => simp [intOf]; omega
    · obtain rfl : k = n := by omega
      go_wp2
      go_ret
      refine ⟨rfl, ?_, hb.out⟩
      have := ho.out
      rw [List.drop_eq_nil_of_le (by have := HN.out; omega), List.append_nil] at this
      exact this

set_option maxHeartbeats 400000 in
theorem heldByteS (w : World) {lo hi : Nat} {v : Value} {n s : Nat} (h : Rd w lo hi v (marks s n)) (hL : n ≤ 1048576) (hs : s ≤ 1048576000) :
    Calls Try.prog 64 #[v, .int .i64 s] w (RetV w (.int .i64 ((s + n : Nat) : Int))) := by
  have hrd := h
  obtain ⟨A, c, rfl, hc, hm, _⟩ := h
  rw [marks_length] at hc hrd ⊢
  clear hm
  go_enter Try.func64, Try.ntmps64
  go_wp2_with fail
  go_loopw [1, 5] (fun t i wr => ∃ k : Nat, k ≤ n ∧ i = .int .i64 k ∧ t = .int .i64 ((s + k : Nat) : Int) ∧ Below w.heap.size w wr)
    (fun _ i _ => n - (intOf i).toNat)
  case atStart => exact ⟨0, Nat.zero_le _, rfl, rfl, Below.refl _ _⟩
  case round =>
    obtain ⟨k, hk, rfl, rfl, hb⟩ := hrel
    by_cases hlt : k < n
    · obtain ⟨b, o, hA, _, _, hck⟩ := (hrd.below hb).spot (k := k) (by rw [marks_length]; omega)
      subst hA
      rw [marks_getD s n k hlt] at hck
      go_wp2
      go_roundw
      case rel => exact ⟨k + 1, by omega, by go_num, by go_num, hb⟩
      case measure => simp [intOf]; omega
    · obtain rfl : k = n := by omega
      go_wp2
      go_ret
      exact ⟨rfl, hb⟩

theorem bytes_beq (a b : ByteArray) : (a.toList == b.toList) = decide (a = b) := by
  rw [ByteArray.toList_eq, ByteArray.toList_eq, Bool.eq_iff_iff]
  simp only [beq_iff_eq, decide_eq_true_eq]
  exact ⟨fun h => WideShapes.bytes_inj h, fun h => by rw [h]⟩

end Go.Proofs.Ytmipkngikimjgaa.Help

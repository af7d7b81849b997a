/-
  The program's own chapter 1: what each of its functions hands back, in the words of Pure. Lengths to 1048576, numbers of 64 bits.
-/
import Derived.Test.YtmipkngikimjgaaLaws
import Derived.Test.YtmipkngikimjgaaPure
import Derived.Test.YtmipkngikimjgaaHelp
namespace Go.Proofs.Ytmipkngikimjgaa.FloorI
open Go.RowKit Go.Proofs.Ytmipkngikimjgaa.Mem Go.Proofs.Ytmipkngikimjgaa.Pure Go.Proofs.Ytmipkngikimjgaa.Help
set_option linter.unusedVariables false

def I64 (x : Int) : Prop := -9223372036854775808 ≤ x ∧ x ≤ 9223372036854775807
theorem sizeB : (Try.prog.info? 5).map (·.size) = some 1 := by kernel_rfl
theorem zeroB (w : World) : (zeroValue 5).run Try.prog w = .ok (.int .u8 0) w := by kernel_rfl

set_option maxHeartbeats 400000 in
theorem copied (w : World) {lo hi : Nat} {v : Value} {L : List Int} (h : Rd w lo hi v L) (hL : L.length ≤ 1048576) :
    Calls Try.prog 73 #[v] w (RetB w L) := by
  obtain ⟨i0, hi0, hz0, hz1, hz2⟩ := info_parts infoB
  have hrd := h
  obtain ⟨A, c, rfl, hc, hm, _⟩ := h
  obtain ⟨n, hn⟩ : ∃ n, n = L.length := ⟨_, rfl⟩
  have HN : Hid (n = L.length) := hn
  rw [← hn] at hL hc hrd ⊢
  clear hn hm
  go_enter Try.func73, Try.ntmps73
  go_wp2_with (at_make; refine wpList_make_full _ rfl _ _ 22 rfl w.heap.size 5 i0 (.int .u8 0) 1 Try.underlying22 hi0 hz0 hz1 .i64 .i64 _ _ n rfl rfl rfl rfl ?_ ?_ ?_ ?_)
  · rw [hz2]; omega
  · unfold maxLen; omega
  · exact Nat.le_refl _
  · intro w1 hown hg
    have hb1 : Below w.heap.size w w1 := (Below.refl _ _).grown hg (Nat.le_refl _) (fun k hk => by cases hk)
    have ho1 : Own w1 w.heap.size w1.heap.size (.slice (some ⟨w.heap.size, 0, none⟩) n n) (List.replicate n 0) :=
      own_of_row hown (by simp) ((toList_madeCells_one _ _).trans (by simp))
    have hp1 : PartIn (.slice (some ⟨w.heap.size, 0, none⟩) n n) (.slice (some ⟨w.heap.size, 0, none⟩) n n) 0 L.length :=
      ⟨_, _, _, _, _, rfl, by rw [← HN.out], by have := HN.out; omega, by unfold maxLen; omega, fun _ => by simp [Addr.add_lit]⟩
    have hr1 := hrd.below hb1
    clear hown hg
    go_wp2_with (with_reducible refine wpList_copy_b rfl _ _ 22 rfl Try.underlying22 sizeB ho1 hp1 hr1 rfl rfl ?_ ?_)
    · have := HN.out; simp; omega
    · intro w2 ho2 ht2
      have e : splice (List.replicate n (0 : Int)) 0 L = L := by
        have := HN.out
        simp [splice, List.drop_eq_nil_of_le, this]
      rw [e] at ho2
      have HO := Lib.hid ho2
      have HT := Lib.hid ht2
      clear ho2 ht2 e
      go_wp2
      go_ret
      exact ⟨_, rfl, HO.out.more (Nat.le_refl _) HT.out.size, below_touch hb1 HT.out (Nat.le_refl _) (Nat.le_refl _)⟩

/-- The part of v from a on, n long. -/
def RetP (w : World) (v : Value) (a n : Nat) (e : Ending) (w' : World) : Prop := ∃ d, e = .returned d ∧ PartIn v d a n ∧ w = w'

theorem there_nat {L : List Int} {a n : Int} (h : there L a n = true) : ∃ k m : Nat, a = k ∧ n = m ∧ k + m ≤ L.length ∧ L.length ≤ 1024 := by
  have := there_iff.1 h
  exact ⟨a.toNat, n.toNat, by omega, by omega, by omega, by omega⟩

/-- An empty slice that is made by a literal. -/
theorem own_made (w : World) (lo : Nat) (h : lo ≤ w.heap.size) : Own (w.alloc (.cells #[] 5)) lo (w.alloc (.cells #[] 5)).heap.size (.slice (some ⟨w.heap.size, 0, none⟩) 0 0) [] :=
  .inr ⟨w.heap.size, 0, #[], rfl, h, by simp, heap_alloc_new w _, Nat.le_refl _, Nat.zero_le _, rfl, rfl⟩

end Go.Proofs.Ytmipkngikimjgaa.FloorI

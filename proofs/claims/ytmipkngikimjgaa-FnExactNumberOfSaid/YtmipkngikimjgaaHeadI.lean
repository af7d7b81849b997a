/-
  The program's own chapter 2: what each of its functions hands back, in the words of Pure2. Numbers of 64 bits.
-/
import Derived.Test.YtmipkngikimjgaaFloorI
import Derived.Test.YtmipkngikimjgaaPure2
import Derived.Laws.BitsAllLaws
import Derived.Laws.BitsLemmas
import Derived.BigRegion
import Derived.StillTailTactics
namespace Go.Proofs.Ytmipkngikimjgaa.HeadI
open Go.RowKit Go.Proofs.Ytmipkngikimjgaa.Mem Go.Proofs.Ytmipkngikimjgaa.Pure Go.Proofs.Ytmipkngikimjgaa.Help Go.Proofs.Ytmipkngikimjgaa.FloorI
set_option linter.unusedVariables false

set_option maxHeartbeats 400000 in
theorem within (w : World) {x a b : Int} : Calls Try.prog 58 #[.int .i64 x, .int .i64 a, .int .i64 b] w (fun e w' => e = .returned (.bool (decide (a ≤ x ∧ x ≤ b))) ∧ w = w') := by
  by_cases h1 : a ≤ x
  · by_cases h2 : x ≤ b
    · rw [decide_eq_true ⟨h1, h2⟩]
      go_enter Try.func58, Try.ntmps58
      go_wp2
      go_ret
      exact ⟨rfl, rfl⟩
    · rw [decide_eq_false (by omega)]
      go_enter Try.func58, Try.ntmps58
      go_wp2
      go_ret
      exact ⟨rfl, rfl⟩
  · rw [decide_eq_false (by omega)]
    go_enter Try.func58, Try.ntmps58
    go_wp2
    go_ret
    exact ⟨rfl, rfl⟩

/-- The cells of a new block stay. -/
theorem new_kept {w w1 : World} {cs : Array Value} {t : TypeId} (hb : Below (w.alloc (.cells cs t)).heap.size (w.alloc (.cells cs t)) w1) (k : Nat) : w1.cell? ⟨w.heap.size, k, none⟩ = cs[k]? := by
  rw [hb.cell (p := ⟨w.heap.size, k, none⟩) (by show w.heap.size < _; simp)]
  exact cell_of_row _ _ _ _ _ _ (heap_alloc_new w _)

/-- A slice that a literal makes. -/
theorem own_lit (w : World) (lo : Nat) (h : lo ≤ w.heap.size) (L : List Int) (hL : L.length ≤ maxLen) :
    Own (w.alloc (.cells (L.map (Value.int .u8)).toArray 5)) lo (w.alloc (.cells (L.map (Value.int .u8)).toArray 5)).heap.size (.slice (some ⟨w.heap.size, 0, none⟩) L.length L.length) L :=
  .inr ⟨w.heap.size, L.length, _, rfl, h, by simp, heap_alloc_new w _, Nat.le_refl _, hL, by simp, by rw [List.toList_toArray, List.take_of_length_le (by simp)]⟩

theorem own_lit_at (w : World) (lo g : Nat) (hg : g = w.heap.size) (h : lo ≤ w.heap.size) (L : List Int) (hL : L.length ≤ maxLen) :
    Own (w.alloc (.cells (L.map (Value.int .u8)).toArray 5)) lo (w.alloc (.cells (L.map (Value.int .u8)).toArray 5)).heap.size (.slice (some ⟨g, 0, none⟩) L.length L.length) L := by
  subst hg
  exact own_lit w lo h L hL

theorem ofInt_i64 (a : Nat) (ha : a < 9223372036854775808) : (BitVec.ofInt 64 (a : Int)).toNat = a := by
  rw [BitVec.ofInt_natCast, BitVec.toNat_ofNat]; exact Nat.mod_eq_of_lt (by omega)
/-- Two bytes, the lower one first. -/
theorem or_two (a b : Int) (ha : 0 ≤ a ∧ a ≤ 255) (hb : 0 ≤ b ∧ b ≤ 255) : bits .or .i64 a (b * 256) = a + 256 * b := by
  obtain ⟨x, rfl⟩ : ∃ x : Nat, a = x := ⟨a.toNat, by omega⟩
  obtain ⟨y, rfl⟩ : ∃ y : Nat, b = y := ⟨b.toNat, by omega⟩
  have hx : x < 2 ^ 8 := by omega
  have e1 : x ||| (y * 256) = y * 256 + x := by
    rw [Nat.or_comm, Nat.mul_comm, show (256 : Nat) = 2 ^ 8 by rfl, ← Nat.two_pow_add_eq_or_of_lt hx]
  show IntKind.i64.wrap ((BitVec.ofInt 64 (x : Int) ||| BitVec.ofInt 64 ((y : Int) * 256)).toNat : Int) = _
  rw [show ((y : Int) * 256) = ((y * 256 : Nat) : Int) by omega, BitVec.toNat_or, ofInt_i64 x (by omega), ofInt_i64 (y * 256) (by omega), IntKind.wrap_i64, e1]
  omega

/-- It hands back a head; nothing that was there has turned. -/
def RetH (w : World) (h : Hd) (e : Ending) (w' : World) : Prop :=
  e = .returned (.agg #[.int .i64 h.s, .int .i64 h.o, .int .i64 h.l, .int .i64 h.r]) ∧ Below w.heap.size w w'
/-- .. and a bool. -/
def RetHB (w : World) (h : Hd) (b : Bool) (e : Ending) (w' : World) : Prop :=
  e = .returned (.tuple #[.agg #[.int .i64 h.s, .int .i64 h.o, .int .i64 h.l, .int .i64 h.r], .bool b]) ∧ Below w.heap.size w w'

end Go.Proofs.Ytmipkngikimjgaa.HeadI

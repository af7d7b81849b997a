/-
  Chapter 4 on numbers: which tickets are right, their numbers, the ticket of a number. No memory, no program.
-/
import Derived.Test.YtmipkngikimjgaaPure2
import Derived.Laws.BitsAllLaws
import Derived.Laws.BitsLemmas
namespace Go.Proofs.Ytmipkngikimjgaa.Pure
open Go.RowKit Go.Proofs.Ytmipkngikimjgaa.Mem
set_option linter.unusedVariables false

structure Tk where
  t : Int
  g : Int
  s : Int

def Tk.zero : Tk := ⟨0, 0, 0⟩
def tagB (t : Int) : Bool := decide (1 ≤ t ∧ t ≤ 100000)
def genB (g : Int) : Bool := decide (0 ≤ g ∧ g ≤ 7)
def slotB (s : Int) : Bool := decide (0 ≤ s ∧ s ≤ 15)
def tickB (t g s : Int) : Bool := tagB t && (genB g && slotB s)
theorem tickB_iff {t g s : Int} : tickB t g s = true ↔ (1 ≤ t ∧ t ≤ 100000) ∧ (0 ≤ g ∧ g ≤ 7) ∧ 0 ≤ s ∧ s ≤ 15 := by
  simp [tickB, tagB, genB, slotB]
def numW (t g s : Int) : Int := (t * 8 + g) * 16 + s
def numT (t g s : Int) : Int := if tickB t g s then numW t g s else -1
def tickAtB (n : Int) : Bool := tickB (n / 128) (n / 16 % 8) (n % 16)
def tickAt (n : Int) : Tk := if tickAtB n then ⟨n / 128, n / 16 % 8, n % 16⟩ else Tk.zero
theorem tickAtB_iff {n : Int} : tickAtB n = true ↔ 128 ≤ n ∧ n ≤ 12800127 := by
  unfold tickAtB
  rw [tickB_iff]
  omega
theorem tickAt_neg {n : Int} (h : n < 0) : tickAtB n = false := by
  rw [Bool.eq_false_iff]
  intro hc
  have := tickAtB_iff.1 hc
  omega
theorem num_pos {t g s : Int} (h : tickB t g s = true) : numT t g s = numW t g s ∧ 128 ≤ numW t g s ∧ numW t g s ≤ 12800127 := by
  have h1 := tickB_iff.1 h
  refine ⟨?_, ?_, ?_⟩
  · unfold numT; rw [if_pos h]
  · unfold numW; omega
  · unfold numW; omega
theorem num_back {t g s : Int} (h : tickB t g s = true) : tickAtB (numT t g s) = true ∧ tickAt (numT t g s) = ⟨t, g, s⟩ := by
  have h1 := tickB_iff.1 h
  have h2 := num_pos h
  have h3 : tickAtB (numT t g s) = true := by rw [tickAtB_iff, h2.1]; omega
  refine ⟨h3, ?_⟩
  unfold tickAt
  rw [if_pos h3, h2.1]
  unfold numW
  rw [show ((t * 8 + g) * 16 + s) / 128 = t by omega, show ((t * 8 + g) * 16 + s) / 16 % 8 = g by omega, show ((t * 8 + g) * 16 + s) % 16 = s by omega]
theorem at_num {n : Int} (h : tickAtB n = true) : numT (tickAt n).t (tickAt n).g (tickAt n).s = n := by
  have h1 := tickAtB_iff.1 h
  have e : tickAt n = ⟨n / 128, n / 16 % 8, n % 16⟩ := by unfold tickAt; rw [if_pos h]
  rw [e]
  show numT (n / 128) (n / 16 % 8) (n % 16) = n
  rw [(num_pos (t := n / 128) (g := n / 16 % 8) (s := n % 16) h).1]
  unfold numW
  omega

theorem toNat_i64 (x : Int) : (BitVec.ofInt 64 x).toNat = (x % 18446744073709551616).toNat := by
  rw [BitVec.toNat_ofInt]; rfl
/-- The last bits of a number, whatever its sign. -/
theorem and_low (x : Int) (i : Nat) (hi : i ≤ 62) : bits .and .i64 x (((2 ^ i - 1 : Nat) : Int)) = x % ((2 ^ i : Nat) : Int) := by
  have hp : 2 ^ i ≤ 2 ^ 62 := Nat.pow_le_pow_right (by omega) hi
  have h0 : 0 < 2 ^ i := Nat.two_pow_pos i
  have hp' : (2 : Nat) ^ 62 = 4611686018427387904 := rfl
  have e1 : (BitVec.ofInt 64 ((2 ^ i - 1 : Nat) : Int)).toNat = 2 ^ i - 1 := by
    rw [BitVec.ofInt_natCast, BitVec.toNat_ofNat]; exact Nat.mod_eq_of_lt (by omega)
  show IntKind.i64.wrap ((BitVec.ofInt 64 x &&& BitVec.ofInt 64 ((2 ^ i - 1 : Nat) : Int)).toNat : Int) = _
  rw [BitVec.toNat_and, e1, toNat_i64, Nat.and_two_pow_sub_one_eq_mod, IntKind.wrap_i64]
  obtain ⟨y, hy⟩ : ∃ y : Nat, x % 18446744073709551616 = (y : Int) := ⟨(x % 18446744073709551616).toNat, by omega⟩
  rw [hy, Int.toNat_natCast]
  have hm : y % 2 ^ i < 2 ^ i := Nat.mod_lt _ h0
  have e2 : ((y % 2 ^ i : Nat) : Int) = x % ((2 ^ i : Nat) : Int) := by
    rw [Int.natCast_emod, ← hy]
    apply Int.emod_emod_of_dvd
    refine ⟨((2 ^ (64 - i) : Nat) : Int), ?_⟩
    rw [← Int.natCast_mul, ← Nat.pow_add, show i + (64 - i) = 64 by omega]
    rfl
  rw [e2] at *
  omega
theorem and7 (x : Int) : bits .and .i64 x 7 = x % 8 := and_low x 3 (by omega)
theorem and15 (x : Int) : bits .and .i64 x 15 = x % 16 := and_low x 4 (by omega)
/-- Two numbers that share no bit. -/
theorem or_join (i : Nat) (a b : Nat) (ha : a < 9223372036854775808) (hb : b < 2 ^ i) (hs : a % 2 ^ i = 0) (hab : a + b < 9223372036854775808) : bits .or .i64 (a : Int) (b : Int) = ((a + b : Nat) : Int) := by
  have e1 : ∀ n : Nat, n < 9223372036854775808 → (BitVec.ofInt 64 (n : Int)).toNat = n := fun n hn => by
    rw [BitVec.ofInt_natCast, BitVec.toNat_ofNat]; exact Nat.mod_eq_of_lt (by omega)
  show IntKind.i64.wrap ((BitVec.ofInt 64 (a : Int) ||| BitVec.ofInt 64 (b : Int)).toNat : Int) = _
  rw [BitVec.toNat_or, e1 a ha, e1 b (by omega), nat_join i a b hs hb, IntKind.wrap_i64]
  omega
theorem or8 (t g : Int) (ht : 1 ≤ t ∧ t ≤ 100000) (hg : 0 ≤ g ∧ g ≤ 7) : bits .or .i64 (t * 8) g = t * 8 + g := by
  obtain ⟨x, rfl⟩ : ∃ x : Nat, t = x := ⟨t.toNat, by omega⟩
  obtain ⟨y, rfl⟩ : ∃ y : Nat, g = y := ⟨g.toNat, by omega⟩
  have := or_join 3 (x * 8) y (by omega) (by omega) (by omega) (by omega)
  rw [show ((x : Int) * 8) = ((x * 8 : Nat) : Int) by omega, this]
  omega
theorem or16 (t s : Int) (ht : 1 ≤ t ∧ t ≤ 10000000) (hg : 0 ≤ s ∧ s ≤ 15) : bits .or .i64 (t * 16) s = t * 16 + s := by
  obtain ⟨x, rfl⟩ : ∃ x : Nat, t = x := ⟨t.toNat, by omega⟩
  obtain ⟨y, rfl⟩ : ∃ y : Nat, s = y := ⟨s.toNat, by omega⟩
  have := or_join 4 (x * 16) y (by omega) (by omega) (by omega) (by omega)
  rw [show ((x : Int) * 16) = ((x * 16 : Nat) : Int) by omega, this]
  omega
end Go.Proofs.Ytmipkngikimjgaa.Pure

/-
  The draws of chapter 1 (package spec): some floor, some numbers. What is said of them is that they are bytes, few, and numbers of 64 bits.
-/
import Derived.Test.YtmipkngikimjgaaCur
namespace Go.Proofs.Ytmipkngikimjgaa.Cur
open Go.RowKit Go.Proofs.Ytmipkngikimjgaa.Mem Go.Proofs.Ytmipkngikimjgaa.Help Go.Proofs.Ytmipkngikimjgaa.FloorI
set_option linter.unusedVariables false

/-- A new cursor. -/
def RetC (w : World) (C : List Int) (e : Ending) (w' : World) : Prop :=
  ∃ g, e = .returned (.pointer (some ⟨g, 0, none⟩)) ∧ w.heap.size ≤ g ∧ Cu w' g C ∧ Below w.heap.size w w'

set_option maxHeartbeats 1000000 in
theorem l1New (w : World) {v : Value} {C : List Int} (h : Rd w 0 w.heap.size v C) (hC : C.length ≤ 4096) (hb : Byt C) :
    Calls Try.prog 36 #[v] w (RetC w C) := by
  have HR := Lib.hid h
  have HL := Lib.hid hC
  obtain ⟨A, c, rfl, _, _, _⟩ := h
  obtain ⟨n, hn⟩ : ∃ n, n = C.length := ⟨_, rfl⟩
  have HN := Lib.hid hn
  rw [← hn] at hC HR ⊢
  clear hn
  go_enter Try.func36, Try.ntmps36
  go_wp2_with fail
  go_loop [3, 4] (fun x i => ∃ (k : Nat) (y : Int), k ≤ n ∧ i = .int .i64 k ∧ x = .int .i64 y) (fun _ i => n - (intOf i).toNat)
  case atStart => exact ⟨0, _, Nat.zero_le _, rfl, rfl⟩
  case round =>
    obtain ⟨k, y, hk, rfl, rfl⟩ := hrel
    by_cases hlt : k < n
    · obtain ⟨b, o, rfl, _, _, hck⟩ := HR.out.spot (k := k) (by have := HN.out; omega)
      obtain ⟨z, hz⟩ : ∃ z, z = C.getD k 0 := ⟨_, rfl⟩
      rw [← hz] at hck
      clear hz
      go_wp2
      go_round
      case rel => exact ⟨k + 1, _, by omega, by go_num, rfl⟩
      case measure => simp [intOf]; omega
    · obtain rfl : k = n := by omega
      go_wp2
      go_ret
      refine ⟨w.heap.size, rfl, Nat.le_refl _, ⟨_, 0, y, heap_alloc_new w _, HR.out.below ((Below.refl _ _).alloc (Nat.le_refl _) _), Int.le_refl _, by omega, HL.out, hb⟩, (Below.refl _ _).alloc (Nat.le_refl _) _⟩

theorem only_new {lo hi lo2 hi2 : Nat} {w w1 w2 : World} (h : OnlyIn lo hi w w1) (k : OnlyIn lo2 hi2 w1 w2) (hl : w.heap.size ≤ lo2) : OnlyIn lo hi w w2 :=
  ⟨k.os.trans h.os, k.tape.trans h.tape, k.output.trans h.output, Nat.le_trans h.size k.size,
    fun i hi hn => (k.block i (Nat.lt_of_lt_of_le hi h.size) (by omega)).trans (h.block i hi hn)⟩
theorem byt_set {L : List Int} (h : Byt L) (k : Nat) {x : Int} (hx : 0 ≤ x ∧ x ≤ 255) : Byt (L.set k x) := by
  intro y hy
  rcases List.mem_or_eq_of_mem_set hy with h1 | rfl
  · exact h y h1
  · exact hx

/-- Some new row of at most 40 bytes; only the cursor has turned. -/
def RetF (w : World) (g : Nat) (C : List Int) (e : Ending) (w' : World) : Prop :=
  ∃ v L, e = .returned v ∧ Own w' w.heap.size w'.heap.size v L ∧ Byt L ∧ L.length ≤ 40 ∧ Cu w' g C ∧ OnlyIn g (g + 1) w w'

/-- Some number of 64 bits; only the cursor has turned. -/
def RetI (w : World) (g : Nat) (C : List Int) (e : Ending) (w' : World) : Prop := ∃ r, e = .returned (.int .i64 r) ∧ I64 r ∧ Cu w' g C ∧ OnlyIn g (g + 1) w w'

/-- A new row of at most 40 bytes, and two numbers. -/
def RetF2 (w : World) (e : Ending) (w' : World) : Prop :=
  ∃ v L a n, e = .returned (.tuple #[v, .int .i64 a, .int .i64 n]) ∧ Own w' w.heap.size w'.heap.size v L ∧ Byt L ∧ L.length ≤ 40 ∧ I64 a ∧ I64 n ∧ Below w.heap.size w w'
/-- A new row of at most 40 bytes, a number, another new row. -/
def RetFF (w : World) (e : Ending) (w' : World) : Prop :=
  ∃ v L a v2 M mid, e = .returned (.tuple #[v, .int .i64 a, v2]) ∧ w.heap.size ≤ mid ∧ mid ≤ w'.heap.size ∧ Own w' w.heap.size mid v L ∧ Byt L ∧ L.length ≤ 40 ∧ I64 a ∧ Own w' mid w'.heap.size v2 M ∧ Byt M ∧ M.length ≤ 40 ∧ Below w.heap.size w w'
/-- A new row of at most 40 bytes, and three numbers. -/
def RetF3 (w : World) (e : Ending) (w' : World) : Prop :=
  ∃ v L a n m, e = .returned (.tuple #[v, .int .i64 a, .int .i64 n, .int .i64 m]) ∧ Own w' w.heap.size w'.heap.size v L ∧ Byt L ∧ L.length ≤ 40 ∧ I64 a ∧ I64 n ∧ I64 m ∧ Below w.heap.size w w'

theorem i64_under {n r : Int} (h : Under n r) (hn : n ≤ 1000000000) : I64 r := by
  obtain ⟨h1, h2, h3⟩ := h
  unfold I64
  by_cases hp : 0 < n
  · have := h2 hp; omega
  · have := h3 (by omega); omega
theorem results_tmp4 {fn : Func} {t u v x : Tmp} (h : fn.results = #[.tmp t, .tmp u, .tmp v, .tmp x]) (tmps : Array Value) (P : Program) (w : World) :
    (results fn tmps).run P w = .ok (.tuple #[tmps.getD t undef, tmps.getD u undef, tmps.getD v undef, tmps.getD x undef]) w := by simp [results, h]
theorem below_cur {B g : Nat} {w0 w w' : World} (hb : Below B w0 w) (h : OnlyIn g (g + 1) w w') (hg : B ≤ g) (hs : B ≤ w0.heap.size) : Below B w0 w' := below_touch hb h hg hs

end Go.Proofs.Ytmipkngikimjgaa.Cur

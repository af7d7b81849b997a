/-
  FnExactSameModel, where the program answers as the model does: the law says yes. No condition but that contract.
-/
import Derived.Test.YtmipkngikimjgaaModS
import Derived.Test.YtmipkngikimjgaaModSz
namespace Go.Proofs.Ytmipkngikimjgaa.SameL
open Go.RowKit Go.Proofs.Ytmipkngikimjgaa.Mem Go.Proofs.Ytmipkngikimjgaa.Pure Go.Proofs.Ytmipkngikimjgaa.Help Go.Proofs.Ytmipkngikimjgaa.Seq Go.Proofs.Ytmipkngikimjgaa.Ints Go.Proofs.Ytmipkngikimjgaa.Nest Go.Proofs.Ytmipkngikimjgaa.Mods
set_option linter.unusedVariables false

/-- What stays from step to step: the two arguments' boxes, and all that was there. -/
structure Bun (w0 : World) (b0 b1 : Nat) (C0 C1 : Array Value) (wr : World) : Prop where
  b : Below w0.heap.size w0 wr
  x : Blk wr b0 C0 39
  y : Blk wr b1 C1 39

theorem Bun.step {w0 wr w2 : World} {b0 b1 : Nat} {C0 C1 : Array Value} (h : Hid (Bun w0 b0 b1 C0 C1 wr)) (hb : Below wr.heap.size wr w2) : Hid (Bun w0 b0 b1 C0 C1 w2) :=
  Lib.hid ⟨below_then h.out.b hb (Nat.le_refl _), h.out.x.below hb, h.out.y.below hb⟩

theorem Bun.cells {w0 wr : World} {b0 b1 : Nat} {s0 n0 s1 n1 : Int} {x y : Value} (h : Hid (Bun w0 b0 b1 #[.int .i64 s0, x, .int .i64 n0] #[.int .i64 s1, y, .int .i64 n1] wr)) :
    wr.cell? ⟨b0, 0, none⟩ = some (.int .i64 s0) ∧ wr.cell? ⟨b0, 1, none⟩ = some x ∧ wr.cell? ⟨b0, 2, none⟩ = some (.int .i64 n0) ∧ wr.cell? ⟨b1, 0, none⟩ = some (.int .i64 s1) ∧ wr.cell? ⟨b1, 1, none⟩ = some y ∧ wr.cell? ⟨b1, 2, none⟩ = some (.int .i64 n1) ∧ Hid (Bun w0 b0 b1 #[.int .i64 s0, x, .int .i64 n0] #[.int .i64 s1, y, .int .i64 n1] wr) := by
  obtain ⟨⟨c0, c1, c2⟩, _⟩ := blk3 h.out.x
  obtain ⟨⟨d0, d1, d2⟩, _⟩ := blk3 h.out.y
  exact ⟨c0, c1, c2, d0, d1, d2, h⟩

/-- .. and the two models that were made of them, in their boxes. -/
structure Bun2 (w0 : World) (b0 b1 b2 b3 : Nat) (C0 C1 C2 C3 : Array Value) (vp vq : Value) (M0 M1 : Md) (wr : World) : Prop where
  u : Bun w0 b0 b1 C0 C1 wr
  x : Blk wr b2 C2 44
  y : Blk wr b3 C3 44
  p : RdM wr 0 wr.heap.size vp M0
  q : RdM wr 0 wr.heap.size vq M1

theorem Bun2.step {w0 wr w2 : World} {b0 b1 b2 b3 : Nat} {C0 C1 C2 C3 : Array Value} {x y : Value} {M0 M1 : Md} (h : Hid (Bun2 w0 b0 b1 b2 b3 C0 C1 C2 C3 x y M0 M1 wr)) (hb : Below wr.heap.size wr w2) : Hid (Bun2 w0 b0 b1 b2 b3 C0 C1 C2 C3 x y M0 M1 w2) :=
  Lib.hid ⟨(Bun.step (Lib.hid h.out.u) hb).out, h.out.x.below hb, h.out.y.below hb, (h.out.p.below hb).all, (h.out.q.below hb).all⟩

theorem Bun2.cells {w0 wr : World} {b0 b1 b2 b3 : Nat} {s0 n0 s1 n1 s2 n2 s3 n3 : Int} {x y z v xx yy : Value} {M0 M1 : Md} (h : Hid (Bun2 w0 b0 b1 b2 b3 #[.int .i64 s0, x, .int .i64 n0] #[.int .i64 s1, y, .int .i64 n1] #[.int .i64 s2, z, .int .i64 n2] #[.int .i64 s3, v, .int .i64 n3] xx yy M0 M1 wr)) :
    wr.cell? ⟨b0, 0, none⟩ = some (.int .i64 s0) ∧ wr.cell? ⟨b0, 1, none⟩ = some x ∧ wr.cell? ⟨b0, 2, none⟩ = some (.int .i64 n0) ∧ wr.cell? ⟨b1, 0, none⟩ = some (.int .i64 s1) ∧ wr.cell? ⟨b1, 1, none⟩ = some y ∧ wr.cell? ⟨b1, 2, none⟩ = some (.int .i64 n1) ∧
    wr.cell? ⟨b2, 0, none⟩ = some (.int .i64 s2) ∧ wr.cell? ⟨b2, 1, none⟩ = some z ∧ wr.cell? ⟨b2, 2, none⟩ = some (.int .i64 n2) ∧ wr.cell? ⟨b3, 0, none⟩ = some (.int .i64 s3) ∧ wr.cell? ⟨b3, 1, none⟩ = some v ∧ wr.cell? ⟨b3, 2, none⟩ = some (.int .i64 n3) ∧
    Hid (Bun2 w0 b0 b1 b2 b3 #[.int .i64 s0, x, .int .i64 n0] #[.int .i64 s1, y, .int .i64 n1] #[.int .i64 s2, z, .int .i64 n2] #[.int .i64 s3, v, .int .i64 n3] xx yy M0 M1 wr) := by
  obtain ⟨e0, e1, e2, f0, f1, f2, _⟩ := Bun.cells (Lib.hid h.out.u)
  obtain ⟨⟨c0, c1, c2⟩, _⟩ := blk3 h.out.x
  obtain ⟨⟨d0, d1, d2⟩, _⟩ := blk3 h.out.y
  exact ⟨e0, e1, e2, f0, f1, f2, c0, c1, c2, d0, d1, d2, h⟩

set_option maxRecDepth 100000 in
set_option maxHeartbeats 1000000 in
theorem big0 (s0 : Int) (a0 : Option Addr) (l0 c0 : Nat) (K0 : List Rm) (n0 : Int) (s1 : Int) (a1 : Option Addr) (l1 c1 : Nat) (K1 : List Rm) (n1 : Int) (w : World) (q0 : RdG 4 rmS w 0 w.heap.size (.slice a0 l0 c0) K0) (o0 : ∀ k ∈ K0, RmOk k) (q1 : RdG 4 rmS w 0 w.heap.size (.slice a1 l1 c1) K1) (o1 : ∀ k ∈ K1, RmOk k) (hbig : 1048576 < mdC ⟨s0, K0, n0⟩) :
    Calls Try.prog 7 #[.agg #[.int .i64 s0, .slice a0 l0 c0, .int .i64 n0], .agg #[.int .i64 s1, .slice a1 l1 c1, .int .i64 n1]] w fun e w' => e = .returned (.bool true) ∧ Below w.heap.size w w' := by
  have HM0 : Hid (∀ w1 : World, Below w.heap.size w w1 → RdM w1 0 w.heap.size (.agg #[.int .i64 s0, .slice a0 l0 c0, .int .i64 n0]) ⟨s0, K0, n0⟩) := Lib.hid (fun w1 hb => ⟨_, rfl, q0.below shRm hb⟩)
  have HZ : Hid (∀ w1 : World, Below w.heap.size w w1 → Calls Try.prog 20 #[.agg #[.int .i64 s0, .slice a0 l0 c0, .int .i64 n0], .int .i64 1048576] w1 (RetV w1 (.int .i64 (-1)))) := Lib.hid (fun w1 hb => by
    have := szModel w1 (m := 1048576) (HM0.out w1 hb) ⟨by omega, by omega⟩
    unfold left at this
    rwa [if_pos (by omega)] at this)
  have HB0 : Hid (Below w.heap.size w ((w.alloc (.cells #[.int .i64 s0, .slice a0 l0 c0, .int .i64 n0] 39)).alloc (.cells #[.int .i64 s1, .slice a1 l1 c1, .int .i64 n1] 39))) := Lib.hid (((Below.refl _ _).alloc (Nat.le_refl _) _).alloc (by simp) _)
  clear q0 q1 o0 o1 hbig HM0
  go_enter Try.func7, Try.ntmps7
  go_wp2_with fail
  refine (HZ.out _ HB0.out).mono ?_
  rintro e w1 ⟨rfl, hb1⟩
  have HB1 := Lib.hid (below_then HB0.out hb1 (Nat.le_refl _))
  clear hb1
  go_wp2
  go_ret
  exact ⟨rfl, HB1.out⟩

set_option maxRecDepth 100000 in
set_option maxHeartbeats 1000000 in
theorem big1 (s0 : Int) (a0 : Option Addr) (l0 c0 : Nat) (K0 : List Rm) (n0 : Int) (s1 : Int) (a1 : Option Addr) (l1 c1 : Nat) (K1 : List Rm) (n1 : Int) (w : World) (q0 : RdG 4 rmS w 0 w.heap.size (.slice a0 l0 c0) K0) (o0 : ∀ k ∈ K0, RmOk k) (q1 : RdG 4 rmS w 0 w.heap.size (.slice a1 l1 c1) K1) (o1 : ∀ k ∈ K1, RmOk k) (h0 : mdC ⟨s0, K0, n0⟩ ≤ 1048576) (hbig : 1048576 < mdC ⟨s0, K0, n0⟩ + mdC ⟨s1, K1, n1⟩) :
    Calls Try.prog 7 #[.agg #[.int .i64 s0, .slice a0 l0 c0, .int .i64 n0], .agg #[.int .i64 s1, .slice a1 l1 c1, .int .i64 n1]] w fun e w' => e = .returned (.bool true) ∧ Below w.heap.size w w' := by
  have HM0 : Hid (∀ w1 : World, Below w.heap.size w w1 → RdM w1 0 w.heap.size (.agg #[.int .i64 s0, .slice a0 l0 c0, .int .i64 n0]) ⟨s0, K0, n0⟩) := Lib.hid (fun w1 hb => ⟨_, rfl, q0.below shRm hb⟩)
  have HM1 : Hid (∀ w1 : World, Below w.heap.size w w1 → RdM w1 0 w.heap.size (.agg #[.int .i64 s1, .slice a1 l1 c1, .int .i64 n1]) ⟨s1, K1, n1⟩) := Lib.hid (fun w1 hb => ⟨_, rfl, q1.below shRm hb⟩)
  obtain ⟨p, hp⟩ : ∃ p : Int, p = 1048576 - (mdC ⟨s0, K0, n0⟩ : Int) := ⟨_, rfl⟩
  have hp0 : 0 ≤ p := by omega
  have HZ : Hid (∀ w1 : World, Below w.heap.size w w1 → Calls Try.prog 20 #[.agg #[.int .i64 s0, .slice a0 l0 c0, .int .i64 n0], .int .i64 1048576] w1 (RetV w1 (.int .i64 p))) := Lib.hid (fun w1 hb => by
    have := szModel w1 (m := 1048576) (HM0.out w1 hb) ⟨by omega, by omega⟩
    unfold left at this
    rwa [if_neg (by omega), ← hp] at this)
  have HY : Hid (∀ w1 : World, Below w.heap.size w w1 → Calls Try.prog 20 #[.agg #[.int .i64 s1, .slice a1 l1 c1, .int .i64 n1], .int .i64 p] w1 (RetV w1 (.int .i64 (-1)))) := Lib.hid (fun w1 hb => by
    have := szModel w1 (m := p) (HM1.out w1 hb) ⟨by omega, by omega⟩
    unfold left at this
    rwa [if_pos (by omega)] at this)
  have HB0 : Hid (Below w.heap.size w ((w.alloc (.cells #[.int .i64 s0, .slice a0 l0 c0, .int .i64 n0] 39)).alloc (.cells #[.int .i64 s1, .slice a1 l1 c1, .int .i64 n1] 39))) := Lib.hid (((Below.refl _ _).alloc (Nat.le_refl _) _).alloc (by simp) _)
  have HC0 : Hid (Blk ((w.alloc (.cells #[.int .i64 s0, .slice a0 l0 c0, .int .i64 n0] 39)).alloc (.cells #[.int .i64 s1, .slice a1 l1 c1, .int .i64 n1] 39)) (w.heap.size + 1) #[.int .i64 s1, .slice a1 l1 c1, .int .i64 n1] 39) := Lib.hid (by
    have := Blk.new (w.alloc (.cells #[.int .i64 s0, .slice a0 l0 c0, .int .i64 n0] 39)) #[.int .i64 s1, .slice a1 l1 c1, .int .i64 n1] 39
    simpa using this)
  clear q0 q1 o0 o1 hbig HM0 HM1 hp h0
  go_enter Try.func7, Try.ntmps7
  go_wp2_with fail
  refine (HZ.out _ HB0.out).mono ?_
  rintro e w1 ⟨rfl, hb1⟩
  have HB1 := Lib.hid (below_then HB0.out hb1 (Nat.le_refl _))
  obtain ⟨⟨d0, d1, d2⟩, _⟩ := blk3 (HC0.out.below hb1)
  clear hb1
  go_wp2_with fail
  refine (HY.out _ HB1.out).mono ?_
  rintro e w2 ⟨rfl, hb2⟩
  have HB2 := Lib.hid (below_then HB1.out hb2 (Nat.le_refl _))
  clear hb2
  go_wp2
  go_ret
  exact ⟨rfl, HB2.out⟩

set_option maxRecDepth 100000 in
set_option maxHeartbeats 4000000 in
theorem small (s0 : Int) (a0 : Option Addr) (l0 c0 : Nat) (K0 : List Rm) (n0 : Int) (s1 : Int) (a1 : Option Addr) (l1 c1 : Nat) (K1 : List Rm) (n1 : Int) (w : World) (q0 : RdG 4 rmS w 0 w.heap.size (.slice a0 l0 c0) K0) (o0 : ∀ k ∈ K0, RmOk k) (q1 : RdG 4 rmS w 0 w.heap.size (.slice a1 l1 c1) K1) (o1 : ∀ k ∈ K1, RmOk k) (h0 : mdC ⟨s0, K0, n0⟩ + mdC ⟨s1, K1, n1⟩ ≤ 1048576)
    (Impl : ∀ (w : World) (lo hi lo2 hi2 : Nat) (va vb : Value), RdM w lo hi va ⟨s0, K0, n0⟩ → RdM w lo2 hi2 vb ⟨s1, K1, n1⟩ → Calls Try.prog 23 #[va, vb] w (RetV w (.bool (sameMd ⟨s0, K0, n0⟩ ⟨s1, K1, n1⟩)))) :
    Calls Try.prog 7 #[.agg #[.int .i64 s0, .slice a0 l0 c0, .int .i64 n0], .agg #[.int .i64 s1, .slice a1 l1 c1, .int .i64 n1]] w fun e w' => e = .returned (.bool true) ∧ Below w.heap.size w w' := by
  have HM0 : Hid (∀ w1 : World, Below w.heap.size w w1 → RdM w1 0 w.heap.size (.agg #[.int .i64 s0, .slice a0 l0 c0, .int .i64 n0]) ⟨s0, K0, n0⟩) := Lib.hid (fun w1 hb => ⟨_, rfl, q0.below shRm hb⟩)
  have HM1 : Hid (∀ w1 : World, Below w.heap.size w w1 → RdM w1 0 w.heap.size (.agg #[.int .i64 s1, .slice a1 l1 c1, .int .i64 n1]) ⟨s1, K1, n1⟩) := Lib.hid (fun w1 hb => ⟨_, rfl, q1.below shRm hb⟩)
  obtain ⟨p, hp⟩ : ∃ p : Int, p = 1048576 - (mdC ⟨s0, K0, n0⟩ : Int) := ⟨_, rfl⟩
  obtain ⟨q, hq⟩ : ∃ q : Int, q = p - (mdC ⟨s1, K1, n1⟩ : Int) := ⟨_, rfl⟩
  have hp0 : 0 ≤ p := by omega
  have hq0 : 0 ≤ q := by omega
  have HZ : Hid (∀ w1 : World, Below w.heap.size w w1 → Calls Try.prog 20 #[.agg #[.int .i64 s0, .slice a0 l0 c0, .int .i64 n0], .int .i64 1048576] w1 (RetV w1 (.int .i64 p))) := Lib.hid (fun w1 hb => by
    have := szModel w1 (m := 1048576) (HM0.out w1 hb) ⟨by omega, by omega⟩
    unfold left at this
    rwa [if_neg (by omega), ← hp] at this)
  have HY : Hid (∀ w1 : World, Below w.heap.size w w1 → Calls Try.prog 20 #[.agg #[.int .i64 s1, .slice a1 l1 c1, .int .i64 n1], .int .i64 p] w1 (RetV w1 (.int .i64 q))) := Lib.hid (fun w1 hb => by
    have := szModel w1 (m := p) (HM1.out w1 hb) ⟨by omega, by omega⟩
    unfold left at this
    rwa [if_neg (by omega), ← hq] at this)
  obtain ⟨M0, hM0⟩ : ∃ M : Md, M = ⟨s0, K0, n0⟩ := ⟨_, rfl⟩
  obtain ⟨M1, hM1⟩ : ∃ M : Md, M = ⟨s1, K1, n1⟩ := ⟨_, rfl⟩
  have hI := Impl
  rw [← hM0, ← hM1] at hI
  rw [← hM0] at HM0
  rw [← hM1] at HM1
  have HT0 : Hid (∀ w1 : World, Below w.heap.size w w1 → Calls Try.prog 22 #[.agg #[.int .i64 s0, .slice a0 l0 c0, .int .i64 n0]] w1 (fun e w' => ∃ v', e = .returned v' ∧ RdM w' w1.heap.size w'.heap.size v' M0 ∧ Below w1.heap.size w1 w')) := Lib.hid (fun w1 hb => toModel w1 (HM0.out w1 hb) (by rw [hM0]; omega))
  have HT1 : Hid (∀ w1 : World, Below w.heap.size w w1 → Calls Try.prog 22 #[.agg #[.int .i64 s1, .slice a1 l1 c1, .int .i64 n1]] w1 (fun e w' => ∃ v', e = .returned v' ∧ RdM w' w1.heap.size w'.heap.size v' M1 ∧ Below w1.heap.size w1 w')) := Lib.hid (fun w1 hb => toModel w1 (HM1.out w1 hb) (by rw [hM1]; omega))
  have HO0 : Hid (MdOk M0) := Lib.hid (by rw [hM0]; exact o0)
  have HO1 : Hid (MdOk M1) := Lib.hid (by rw [hM1]; exact o1)
  obtain ⟨X, hX⟩ : ∃ X, X = sameMd M0 M1 := ⟨_, rfl⟩
  have HI : Hid (∀ (w1 : World) (lo hi lo2 hi2 : Nat) (va vb : Value), RdM w1 lo hi va M0 → RdM w1 lo2 hi2 vb M1 → Calls Try.prog 23 #[va, vb] w1 (RetV w1 (.bool X))) := Lib.hid (by rw [hX]; exact hI)
  have HP : Hid (∀ (w1 : World) (lo hi lo2 hi2 : Nat) (va vb : Value), RdM w1 lo hi va M0 → RdM w1 lo2 hi2 vb M1 → Calls Try.prog 21 #[va, vb] w1 (RetV w1 (.bool X))) := Lib.hid (fun w1 lo hi lo2 hi2 va vb ha hb => by rw [hX]; exact ModS.sameModel w1 ha hb HO0.out HO1.out)
  have HU : Hid (Bun w w.heap.size (w.heap.size + 1) #[.int .i64 s0, .slice a0 l0 c0, .int .i64 n0] #[.int .i64 s1, .slice a1 l1 c1, .int .i64 n1] ((w.alloc (.cells #[.int .i64 s0, .slice a0 l0 c0, .int .i64 n0] 39)).alloc (.cells #[.int .i64 s1, .slice a1 l1 c1, .int .i64 n1] 39))) := Lib.hid ⟨((Below.refl _ _).alloc (Nat.le_refl _) _).alloc (by simp) _, (Blk.new w _ _).more _, by
    have := Blk.new (w.alloc (.cells #[.int .i64 s0, .slice a0 l0 c0, .int .i64 n0] 39)) #[.int .i64 s1, .slice a1 l1 c1, .int .i64 n1] 39
    simpa using this⟩
  clear q0 q1 o0 o1 h0 HM0 HM1 hp hq hM0 hM1 hI Impl hX HO0 HO1
  go_enter Try.func7, Try.ntmps7
  go_wp2_with fail
  refine (HZ.out _ HU.out.b).mono ?_
  rintro e w1 ⟨rfl, hb1⟩
  have HU1 := Bun.step HU hb1
  clear hb1 HZ HU
  obtain ⟨c00, c01, c02, c10, c11, c12, hzz⟩ := Bun.cells HU1
  clear hzz
  go_wp2_with fail
  refine (HY.out _ HU1.out.b).mono ?_
  rintro e w2 ⟨rfl, hb2⟩
  have HU2 := Bun.step HU1 hb2
  clear hb2 HY c00 c01 c02 c10 c11 c12
  obtain ⟨c00, c01, c02, c10, c11, c12, hzz⟩ := Bun.cells HU2
  clear hzz
  go_wp2_with fail
  refine wp_region_held_drew (S := (fun w' => w'.cell? ⟨w.heap.size, 0, none⟩ = some (.int .i64 s0) ∧ w'.cell? ⟨w.heap.size, 1, none⟩ = some (.slice a0 l0 c0) ∧ w'.cell? ⟨w.heap.size, 2, none⟩ = some (.int .i64 n0) ∧ w'.cell? ⟨w.heap.size + 1, 0, none⟩ = some (.int .i64 s1) ∧ w'.cell? ⟨w.heap.size + 1, 1, none⟩ = some (.slice a1 l1 c1) ∧ w'.cell? ⟨w.heap.size + 1, 2, none⟩ = some (.int .i64 n1) ∧ Hid (Bun w w.heap.size (w.heap.size + 1) #[.int .i64 s0, .slice a0 l0 c0, .int .i64 n0] #[.int .i64 s1, .slice a1 l1 c1, .int .i64 n1] w'))) (by kernel_rfl) ?_ (fun hHeld => ?_)
  · exact Bun.cells (Bun.step HU2 (below_drew _))
  refine wpAnyH_take (i := 0) (oi := { dst := some 20, op := Op.load 39 (Operand.tmp 2), type := 39, pos := "exact.go:2984", after := #[], guard := none }) (v := ?vb10) rfl (by kernel_rfl) (by kernel_rfl) (by kernel_rfl) (fun _ _ _ h => h) (Or.inl ⟨by rfl, ?hb10⟩) hHeld ?rb10
  case hb10 => intro w hSw; (try dsimp only at hSw); go_simp; try with_reducible rfl
  try simp only [Act.put, List.setIfInBounds_toArray, List.set_cons_zero, List.set_cons_succ]
  refine wpAnyH_take (i := 2) (oi := { dst := some 22, op := Op.load 39 (Operand.tmp 3), type := 39, pos := "exact.go:2984", after := #[], guard := none }) (v := ?vb12) rfl (by kernel_rfl) (by kernel_rfl) (by kernel_rfl) (fun _ _ _ h => h) (Or.inl ⟨by rfl, ?hb12⟩) hHeld ?rb12
  case hb12 => intro w hSw; (try dsimp only at hSw); go_simp; try with_reducible rfl
  try simp only [Act.put, List.setIfInBounds_toArray, List.set_cons_zero, List.set_cons_succ]
  refine wpAnyH_ready (rs := [1]) (by kernel_rfl) (by simp) ?_
  refine AllReadyH.cons (o := { dst := some 21, op := Op.call { callee := Callee.value (Operand.func 22), args := #[Operand.tmp 20], argTypes := #[39] }, type := 44, pos := "exact.go:2984", after := #[{ on := 0, ground := Ground.data }], guard := none }) rfl (fun K hK => ?_) AllReadyH.nil
  go_simp
  refine (HT0.out _ hHeld.2.2.2.2.2.2.out.b).mono ?_
  rintro e w3 ⟨v3, rfl, ⟨x3, rfl, hg3⟩, hb3⟩
  obtain ⟨A3, n3, c3, rfl⟩ := rdG_form hg3
  have HR3 : Hid (RdM w3 w2.heap.size w3.heap.size (.agg #[.int .i64 M0.s, .slice A3 n3 c3, .int .i64 M0.n]) M0) := Lib.hid ⟨_, rfl, hg3⟩
  try go_wp2_with fail
  refine hK.out _ _ ?_ (fun hNew => ?_)
  · exact Bun.cells (Bun.step hHeld.2.2.2.2.2.2 hb3)
  clear hHeld hb3 hg3
  have hHeld := hNew
  clear hNew
  clear hK K
  try simp only [Act.put, List.setIfInBounds_toArray, List.set_cons_zero, List.set_cons_succ]
  refine wpAnyH_ready (rs := [3]) (by kernel_rfl) (by simp) ?_
  refine AllReadyH.cons (o := { dst := some 23, op := Op.call { callee := Callee.value (Operand.func 22), args := #[Operand.tmp 22], argTypes := #[39] }, type := 44, pos := "exact.go:2984", after := #[{ on := 2, ground := Ground.data }, { on := 1, ground := Ground.chain }], guard := none }) rfl (fun K hK => ?_) AllReadyH.nil
  go_simp
  refine (HT1.out _ hHeld.2.2.2.2.2.2.out.b).mono ?_
  rintro e w4 ⟨v4, rfl, ⟨x4, rfl, hg4⟩, hb4⟩
  obtain ⟨A4, n4, c4, rfl⟩ := rdG_form hg4
  have HR4 : Hid (RdM w4 w3.heap.size w4.heap.size (.agg #[.int .i64 M1.s, .slice A4 n4 c4, .int .i64 M1.n]) M1) := Lib.hid ⟨_, rfl, hg4⟩
  have HR34 := Lib.hid (HR3.out.below hb4)
  try go_wp2_with fail
  refine hK.out _ _ ?_ (fun hNew => ?_)
  · exact Bun.cells (Bun.step hHeld.2.2.2.2.2.2 hb4)
  clear hHeld hb4 hg4 HR3
  have hHeld := hNew
  clear hNew
  clear hK K
  try simp only [Act.put, List.setIfInBounds_toArray, List.set_cons_zero, List.set_cons_succ]
  refine wpAnyH_ready (rs := [4]) (by kernel_rfl) (by simp) ?_
  refine AllReadyH.cons (o := { dst := some 24, op := Op.call { callee := Callee.value (Operand.func 21), args := #[Operand.tmp 21, Operand.tmp 23], argTypes := #[44, 44] }, type := 4, pos := "exact.go:2984", after := #[{ on := 1, ground := Ground.data }, { on := 3, ground := Ground.data }, { on := 3, ground := Ground.chain }], guard := none }) rfl (fun K hK => ?_) AllReadyH.nil
  go_simp
  refine (HP.out _ _ _ _ _ _ _ HR34.out HR4.out).mono ?_
  rintro e w5 ⟨rfl, hb5⟩
  try go_wp2_with fail
  refine hK.out _ _ ?_ (fun hNew => ?_)
  · exact Bun.cells (Bun.step hHeld.2.2.2.2.2.2 hb5)
  clear hHeld hb5 HR34 HR4
  have hHeld := hNew
  clear hNew
  clear hK K
  try simp only [Act.put, List.setIfInBounds_toArray, List.set_cons_zero, List.set_cons_succ]
  refine wpAnyH_take (i := 5) (oi := { dst := some 6, op := Op.assign (Operand.tmp 24), type := 4, pos := "exact.go:2984", after := #[{ on := 4, ground := Ground.data }, { on := 4, ground := Ground.chain }, { on := 0, ground := Ground.phase }, { on := 1, ground := Ground.phase }, { on := 2, ground := Ground.phase }, { on := 3, ground := Ground.phase }, { on := 4, ground := Ground.phase }], guard := none }) (v := ?vb15) rfl (by kernel_rfl) (by kernel_rfl) (by kernel_rfl) (fun _ _ _ h => h) (Or.inl ⟨by rfl, ?hb15⟩) hHeld ?rb15
  case hb15 => intro w hSw; (try dsimp only at hSw); go_simp; try with_reducible rfl
  try simp only [Act.put, List.setIfInBounds_toArray, List.set_cons_zero, List.set_cons_succ]
  refine wpAnyH_done (by kernel_rfl) ?_ _
  have HU5 := hHeld.2.2.2.2.2.2
  clear hHeld c00 c01 c02 c10 c11 c12
  obtain ⟨c00, c01, c02, c10, c11, c12, hzz⟩ := Bun.cells HU5
  clear hzz
  go_wp2_with fail
  refine (HT0.out _ HU5.out.b).mono ?_
  rintro e w6 ⟨v6, rfl, ⟨x6, rfl, hg6⟩, hb6⟩
  obtain ⟨A6, n6, c6, rfl⟩ := rdG_form hg6
  have HU6 := Bun.step HU5 hb6
  have HR6 : Hid (RdM w6 w5.heap.size w6.heap.size (.agg #[.int .i64 M0.s, .slice A6 n6 c6, .int .i64 M0.n]) M0) := Lib.hid ⟨_, rfl, hg6⟩
  have HUA := Bun.step HU6 ((Below.refl _ _).alloc (Nat.le_refl _) (.cells #[.int .i64 M0.s, .slice A6 n6 c6, .int .i64 M0.n] 44))
  have HR6A := Lib.hid (HR6.out.below ((Below.refl _ _).alloc (Nat.le_refl _) (.cells #[.int .i64 M0.s, .slice A6 n6 c6, .int .i64 M0.n] 44)))
  have HX6 : Hid (Blk (w6.alloc (.cells #[.int .i64 M0.s, .slice A6 n6 c6, .int .i64 M0.n] 44)) w6.heap.size #[.int .i64 M0.s, .slice A6 n6 c6, .int .i64 M0.n] 44) := Lib.hid (Blk.new w6 _ _)
  clear hb6 hg6 HR6 c00 c01 c02 c10 c11 c12
  obtain ⟨c00, c01, c02, c10, c11, c12, hzz⟩ := Bun.cells HU6
  have k0 := HU6.out.x.lt
  have k1 := HU6.out.y.lt
  clear hzz
  go_wp2_with fail
  refine (HT1.out _ HUA.out.b).mono ?_
  rintro e w7 ⟨v7, rfl, ⟨x7, rfl, hg7⟩, hb7⟩
  obtain ⟨A7, n7, c7, rfl⟩ := rdG_form hg7
  have HU7 := Bun.step HUA hb7
  have HR7 : Hid (RdM w7 (w6.alloc (.cells #[.int .i64 M0.s, .slice A6 n6 c6, .int .i64 M0.n] 44)).heap.size w7.heap.size (.agg #[.int .i64 M1.s, .slice A7 n7 c7, .int .i64 M1.n]) M1) := Lib.hid ⟨_, rfl, hg7⟩
  have HR67 := Lib.hid (HR6A.out.below hb7)
  have HX7 := Lib.hid (HX6.out.below hb7)
  have HU8 : Hid (Bun2 w w.heap.size (w.heap.size + 1) w6.heap.size w7.heap.size #[.int .i64 s0, .slice a0 l0 c0, .int .i64 n0] #[.int .i64 s1, .slice a1 l1 c1, .int .i64 n1] #[.int .i64 M0.s, .slice A6 n6 c6, .int .i64 M0.n] #[.int .i64 M1.s, .slice A7 n7 c7, .int .i64 M1.n] (.agg #[.int .i64 M0.s, .slice A6 n6 c6, .int .i64 M0.n]) (.agg #[.int .i64 M1.s, .slice A7 n7 c7, .int .i64 M1.n]) M0 M1 (w7.alloc (.cells #[.int .i64 M1.s, .slice A7 n7 c7, .int .i64 M1.n] 44))) := Lib.hid (by
    have hw := (Below.refl w7.heap.size w7).alloc (Nat.le_refl _) (.cells #[.int .i64 M1.s, .slice A7 n7 c7, .int .i64 M1.n] 44)
    exact ⟨(Bun.step HU7 hw).out, HX7.out.below hw, Blk.new w7 _ _, (HR67.out.below hw).all, (HR7.out.below hw).all⟩)
  clear hb7 hg7 HR7 HR67 HR6A HUA HX6 c00 c01 c02 c10 c11 c12 k0 k1
  have k6 : w6.heap.size < w7.heap.size := HX7.out.lt
  obtain ⟨⟨d0, d1, d2⟩, _⟩ := blk3 HX7.out
  go_wp2_with fail
  refine (HI.out _ _ _ _ _ _ _ HU8.out.p HU8.out.q).mono ?_
  rintro e w9 ⟨rfl, hb9⟩
  have HU9 := Bun2.step HU8 hb9
  clear hb9 d0 d1 d2 k6
  have hXX : (X != X) = false := by simp
  obtain ⟨c00, c01, c02, c10, c11, c12, d0, d1, d2, e0, e1, e2, hzz⟩ := Bun2.cells HU9
  clear hzz
  go_wp2_with fail
  refine wp_region_held_drew (S := (fun w' => w'.cell? ⟨w.heap.size, 0, none⟩ = some (.int .i64 s0) ∧ w'.cell? ⟨w.heap.size, 1, none⟩ = some (.slice a0 l0 c0) ∧ w'.cell? ⟨w.heap.size, 2, none⟩ = some (.int .i64 n0) ∧ w'.cell? ⟨w.heap.size + 1, 0, none⟩ = some (.int .i64 s1) ∧ w'.cell? ⟨w.heap.size + 1, 1, none⟩ = some (.slice a1 l1 c1) ∧ w'.cell? ⟨w.heap.size + 1, 2, none⟩ = some (.int .i64 n1) ∧ w'.cell? ⟨w6.heap.size, 0, none⟩ = some (.int .i64 M0.s) ∧ w'.cell? ⟨w6.heap.size, 1, none⟩ = some (.slice A6 n6 c6) ∧ w'.cell? ⟨w6.heap.size, 2, none⟩ = some (.int .i64 M0.n) ∧ w'.cell? ⟨w7.heap.size, 0, none⟩ = some (.int .i64 M1.s) ∧ w'.cell? ⟨w7.heap.size, 1, none⟩ = some (.slice A7 n7 c7) ∧ w'.cell? ⟨w7.heap.size, 2, none⟩ = some (.int .i64 M1.n) ∧ Hid (Bun2 w w.heap.size (w.heap.size + 1) w6.heap.size w7.heap.size #[.int .i64 s0, .slice a0 l0 c0, .int .i64 n0] #[.int .i64 s1, .slice a1 l1 c1, .int .i64 n1] #[.int .i64 M0.s, .slice A6 n6 c6, .int .i64 M0.n] #[.int .i64 M1.s, .slice A7 n7 c7, .int .i64 M1.n] (.agg #[.int .i64 M0.s, .slice A6 n6 c6, .int .i64 M0.n]) (.agg #[.int .i64 M1.s, .slice A7 n7 c7, .int .i64 M1.n]) M0 M1 w'))) (by kernel_rfl) ?_ (fun hHeld => ?_)
  · exact Bun2.cells (Bun2.step HU9 (below_drew _))
  refine wpAnyH_take (i := 0) (oi := { dst := some 35, op := Op.load 44 (Operand.tmp 7), type := 44, pos := "exact.go:2991", after := #[], guard := none }) (v := ?vc20) rfl (by kernel_rfl) (by kernel_rfl) (by kernel_rfl) (fun _ _ _ h => h) (Or.inl ⟨by rfl, ?hc20⟩) hHeld ?rc20
  case hc20 => intro w hSw; (try dsimp only at hSw); go_simp; try with_reducible rfl
  try simp only [Act.put, List.setIfInBounds_toArray, List.set_cons_zero, List.set_cons_succ]
  refine wpAnyH_take (i := 1) (oi := { dst := some 36, op := Op.load 39 (Operand.tmp 2), type := 39, pos := "exact.go:2991", after := #[], guard := none }) (v := ?vc21) rfl (by kernel_rfl) (by kernel_rfl) (by kernel_rfl) (fun _ _ _ h => h) (Or.inl ⟨by rfl, ?hc21⟩) hHeld ?rc21
  case hc21 => intro w hSw; (try dsimp only at hSw); go_simp; try with_reducible rfl
  try simp only [Act.put, List.setIfInBounds_toArray, List.set_cons_zero, List.set_cons_succ]
  refine wpAnyH_ready (rs := [2]) (by kernel_rfl) (by simp) ?_
  refine AllReadyH.cons (o := { dst := some 37, op := Op.call { callee := Callee.value (Operand.func 22), args := #[Operand.tmp 36], argTypes := #[39] }, type := 44, pos := "exact.go:2991", after := #[{ on := 1, ground := Ground.data }], guard := none }) rfl (fun K hK => ?_) AllReadyH.nil
  go_simp
  refine (HT0.out _ hHeld.2.2.2.2.2.2.2.2.2.2.2.2.out.u.b).mono ?_
  rintro e w10 ⟨v10, rfl, ⟨x10, rfl, hg10⟩, hb10⟩
  obtain ⟨Am10, nm10, cm10, rfl⟩ := rdG_form hg10
  have HR10 : Hid (RdM w10 _ _ (.agg #[.int .i64 M0.s, .slice Am10 nm10 cm10, .int .i64 M0.n]) M0) := Lib.hid ⟨_, rfl, hg10⟩
  try go_wp2_with fail
  refine hK.out _ _ ?_ (fun hNew => ?_)
  · exact Bun2.cells (Bun2.step hHeld.2.2.2.2.2.2.2.2.2.2.2.2 hb10)
  clear hHeld hb10 hg10
  have hHeld := hNew
  clear hNew
  clear hK K
  try simp only [Act.put, List.setIfInBounds_toArray, List.set_cons_zero, List.set_cons_succ]
  refine wpAnyH_ready (rs := [3]) (by kernel_rfl) (by simp) ?_
  refine AllReadyH.cons (o := { dst := some 38, op := Op.call { callee := Callee.value (Operand.func 24), args := #[Operand.tmp 35, Operand.tmp 37], argTypes := #[44, 44] }, type := 4, pos := "exact.go:2991", after := #[{ on := 0, ground := Ground.data }, { on := 2, ground := Ground.data }, { on := 2, ground := Ground.chain }], guard := none }) rfl (fun K hK => ?_) AllReadyH.nil
  go_simp
  refine (eqModel_same _ hHeld.2.2.2.2.2.2.2.2.2.2.2.2.out.p HR10.out).mono ?_
  rintro e w11 ⟨rfl, hb11⟩
  try go_wp2_with fail
  refine hK.out _ _ ?_ (fun hNew => ?_)
  · exact Bun2.cells (Bun2.step hHeld.2.2.2.2.2.2.2.2.2.2.2.2 hb11)
  clear hHeld hb11 HR10
  have hHeld := hNew
  clear hNew
  clear hK K
  try simp only [Act.put, List.setIfInBounds_toArray, List.set_cons_zero, List.set_cons_succ]
  refine wpAnyH_take (i := 4) (oi := { dst := some 39, op := Op.unOp UnOp.not 4 (Operand.tmp 38), type := 4, pos := "exact.go:2991", after := #[{ on := 3, ground := Ground.data }], guard := none }) (v := ?vc24) rfl (by kernel_rfl) (by kernel_rfl) (by kernel_rfl) (fun _ _ _ h => h) (Or.inl ⟨by rfl, ?hc24⟩) hHeld ?rc24
  case hc24 => intro w hSw; (try dsimp only at hSw); go_simp; try with_reducible rfl
  try simp only [Act.put, List.setIfInBounds_toArray, List.set_cons_zero, List.set_cons_succ]
  refine wpAnyH_done (by kernel_rfl) ?_ _
  have HU11 := hHeld.2.2.2.2.2.2.2.2.2.2.2.2
  clear hHeld c00 c01 c02 c10 c11 c12 d0 d1 d2 e0 e1 e2
  obtain ⟨c00, c01, c02, c10, c11, c12, d0, d1, d2, e0, e1, e2, hzz⟩ := Bun2.cells HU11
  clear hzz
  go_wp2_with fail
  refine wp_region_held_drew (S := (fun w' => w'.cell? ⟨w.heap.size, 0, none⟩ = some (.int .i64 s0) ∧ w'.cell? ⟨w.heap.size, 1, none⟩ = some (.slice a0 l0 c0) ∧ w'.cell? ⟨w.heap.size, 2, none⟩ = some (.int .i64 n0) ∧ w'.cell? ⟨w.heap.size + 1, 0, none⟩ = some (.int .i64 s1) ∧ w'.cell? ⟨w.heap.size + 1, 1, none⟩ = some (.slice a1 l1 c1) ∧ w'.cell? ⟨w.heap.size + 1, 2, none⟩ = some (.int .i64 n1) ∧ w'.cell? ⟨w6.heap.size, 0, none⟩ = some (.int .i64 M0.s) ∧ w'.cell? ⟨w6.heap.size, 1, none⟩ = some (.slice A6 n6 c6) ∧ w'.cell? ⟨w6.heap.size, 2, none⟩ = some (.int .i64 M0.n) ∧ w'.cell? ⟨w7.heap.size, 0, none⟩ = some (.int .i64 M1.s) ∧ w'.cell? ⟨w7.heap.size, 1, none⟩ = some (.slice A7 n7 c7) ∧ w'.cell? ⟨w7.heap.size, 2, none⟩ = some (.int .i64 M1.n) ∧ Hid (Bun2 w w.heap.size (w.heap.size + 1) w6.heap.size w7.heap.size #[.int .i64 s0, .slice a0 l0 c0, .int .i64 n0] #[.int .i64 s1, .slice a1 l1 c1, .int .i64 n1] #[.int .i64 M0.s, .slice A6 n6 c6, .int .i64 M0.n] #[.int .i64 M1.s, .slice A7 n7 c7, .int .i64 M1.n] (.agg #[.int .i64 M0.s, .slice A6 n6 c6, .int .i64 M0.n]) (.agg #[.int .i64 M1.s, .slice A7 n7 c7, .int .i64 M1.n]) M0 M1 w'))) (by kernel_rfl) ?_ (fun hHeld => ?_)
  · exact Bun2.cells (Bun2.step HU11 (below_drew _))
  refine wpAnyH_take (i := 0) (oi := { dst := some 40, op := Op.load 44 (Operand.tmp 8), type := 44, pos := "exact.go:2994", after := #[], guard := none }) (v := ?vd30) rfl (by kernel_rfl) (by kernel_rfl) (by kernel_rfl) (fun _ _ _ h => h) (Or.inl ⟨by rfl, ?hd30⟩) hHeld ?rd30
  case hd30 => intro w hSw; (try dsimp only at hSw); go_simp; try with_reducible rfl
  try simp only [Act.put, List.setIfInBounds_toArray, List.set_cons_zero, List.set_cons_succ]
  refine wpAnyH_take (i := 1) (oi := { dst := some 41, op := Op.load 39 (Operand.tmp 3), type := 39, pos := "exact.go:2994", after := #[], guard := none }) (v := ?vd31) rfl (by kernel_rfl) (by kernel_rfl) (by kernel_rfl) (fun _ _ _ h => h) (Or.inl ⟨by rfl, ?hd31⟩) hHeld ?rd31
  case hd31 => intro w hSw; (try dsimp only at hSw); go_simp; try with_reducible rfl
  try simp only [Act.put, List.setIfInBounds_toArray, List.set_cons_zero, List.set_cons_succ]
  refine wpAnyH_ready (rs := [2]) (by kernel_rfl) (by simp) ?_
  refine AllReadyH.cons (o := { dst := some 42, op := Op.call { callee := Callee.value (Operand.func 22), args := #[Operand.tmp 41], argTypes := #[39] }, type := 44, pos := "exact.go:2994", after := #[{ on := 1, ground := Ground.data }], guard := none }) rfl (fun K hK => ?_) AllReadyH.nil
  go_simp
  refine (HT1.out _ hHeld.2.2.2.2.2.2.2.2.2.2.2.2.out.u.b).mono ?_
  rintro e w12 ⟨v12, rfl, ⟨x12, rfl, hg12⟩, hb12⟩
  obtain ⟨Am12, nm12, cm12, rfl⟩ := rdG_form hg12
  have HR12 : Hid (RdM w12 _ _ (.agg #[.int .i64 M1.s, .slice Am12 nm12 cm12, .int .i64 M1.n]) M1) := Lib.hid ⟨_, rfl, hg12⟩
  try go_wp2_with fail
  refine hK.out _ _ ?_ (fun hNew => ?_)
  · exact Bun2.cells (Bun2.step hHeld.2.2.2.2.2.2.2.2.2.2.2.2 hb12)
  clear hHeld hb12 hg12
  have hHeld := hNew
  clear hNew
  clear hK K
  try simp only [Act.put, List.setIfInBounds_toArray, List.set_cons_zero, List.set_cons_succ]
  refine wpAnyH_ready (rs := [3]) (by kernel_rfl) (by simp) ?_
  refine AllReadyH.cons (o := { dst := some 43, op := Op.call { callee := Callee.value (Operand.func 24), args := #[Operand.tmp 40, Operand.tmp 42], argTypes := #[44, 44] }, type := 4, pos := "exact.go:2994", after := #[{ on := 0, ground := Ground.data }, { on := 2, ground := Ground.data }, { on := 2, ground := Ground.chain }], guard := none }) rfl (fun K hK => ?_) AllReadyH.nil
  go_simp
  refine (eqModel_same _ hHeld.2.2.2.2.2.2.2.2.2.2.2.2.out.q HR12.out).mono ?_
  rintro e w13 ⟨rfl, hb13⟩
  try go_wp2_with fail
  refine hK.out _ _ ?_ (fun hNew => ?_)
  · exact Bun2.cells (Bun2.step hHeld.2.2.2.2.2.2.2.2.2.2.2.2 hb13)
  clear hHeld hb13 HR12
  have hHeld := hNew
  clear hNew
  clear hK K
  try simp only [Act.put, List.setIfInBounds_toArray, List.set_cons_zero, List.set_cons_succ]
  refine wpAnyH_take (i := 4) (oi := { dst := some 44, op := Op.unOp UnOp.not 4 (Operand.tmp 43), type := 4, pos := "exact.go:2994", after := #[{ on := 3, ground := Ground.data }], guard := none }) (v := ?vd34) rfl (by kernel_rfl) (by kernel_rfl) (by kernel_rfl) (fun _ _ _ h => h) (Or.inl ⟨by rfl, ?hd34⟩) hHeld ?rd34
  case hd34 => intro w hSw; (try dsimp only at hSw); go_simp; try with_reducible rfl
  try simp only [Act.put, List.setIfInBounds_toArray, List.set_cons_zero, List.set_cons_succ]
  refine wpAnyH_done (by kernel_rfl) ?_ _
  have HU13 := hHeld.2.2.2.2.2.2.2.2.2.2.2.2
  clear hHeld
  go_wp2
  go_ret
  exact ⟨rfl, HU13.out.u.b⟩
end Go.Proofs.Ytmipkngikimjgaa.SameL

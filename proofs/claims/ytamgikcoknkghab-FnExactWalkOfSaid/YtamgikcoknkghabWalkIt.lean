/-
  The program's iterator placesFrom: all places from a on, one after the other, as long as there is a head. Lengths to 1048576, numbers of 64 bits.
-/
import Derived.Test.YtamgikcoknkghabWalkI
import Derived.Test.YtamgikcoknkghabRange
import Derived.Deep.RegionHeld3
namespace Go.Proofs.Ytamgikcoknkghab.WalkI
open Go.RowKit Go.Shelf Go.Proofs.Ytamgikcoknkghab.Mem Go.Proofs.Ytamgikcoknkghab.Pure Go.Proofs.Ytamgikcoknkghab.Help Go.Proofs.Ytamgikcoknkghab.FloorI Go.Proofs.Ytamgikcoknkghab.HeadI Go.Proofs.Ytamgikcoknkghab.Range
set_option linter.unusedVariables false
attribute [local go_sem] Oper.semAt_some

theorem placesFrom (w : World) (A : Option Addr) (m c : Nat) (a : Int) :
    Calls Try.prog 47 #[.slice A m c, .int .i64 a] w (fun e w' => e = .returned (.func (.func 59) #[] #[.pointer (some ⟨w.heap.size, 0, none⟩), .pointer (some ⟨w.heap.size + 1, 0, none⟩)]) ∧
      w' = (w.alloc (.cells #[.slice A m c] 28)).alloc (.cells #[.int .i64 a] 2)) := by
  go_enter Try.func47, Try.ntmps47
  go_wp2
  go_ret
  exact ⟨rfl, rfl⟩

def encP (p : Pl) : Array Value := #[.agg #[.int .i64 p.a, .int .i64 p.h.s, .int .i64 p.h.o, .int .i64 p.h.l, .int .i64 p.h.r]]

/-- How many places are still to come, read off the iterator's own block. -/
def left (C : List Int) (g : Nat) (t : Value) (w : World) : Nat :=
  match t, w.cell? ⟨g, 0, none⟩ with
  | .bool true, some (.int _ a) => (walkL C a).length
  | _, _ => 0

theorem rd_kept {w w' : World} {lo hi : Nat} {v : Value} {L : List Int} (h : Rd w lo hi v L) (hk : ∀ k, lo ≤ k → k < hi → k < w.heap.size → w'.heap[k]? = w.heap[k]?) (hs : w.heap.size ≤ w'.heap.size) : Rd w' lo hi v L := by
  obtain ⟨A, c, hv, hc, hm, hcell⟩ := h
  refine ⟨A, c, hv, hc, hm, fun k hkl => ?_⟩
  obtain ⟨b, o, hA, h1, h2, h3, h4⟩ := hcell k hkl
  exact ⟨b, o, hA, h1, h2, Nat.lt_of_lt_of_le h3 hs, (World.cell?_of_block (hk b h1 h2 h3)).trans h4⟩

/-- Between two rounds: pre has come, the place p is at hand in block g. -/
structure St (C : List Int) (a : Int) (W : World) (g : Nat) (K : Nat → Prop) (J : Nat → List Pl → World → Prop) (pre : List Pl) (p : Pl) (wr : World) : Prop where
  list : walkL C a = pre ++ walkL C p.a
  lo : 0 ≤ p.a
  hi : p.a ≤ 1024
  head : p.h = headAtH C p.a
  blk : Blk wr g #[.int .i64 p.a, .int .i64 p.h.s, .int .i64 p.h.o, .int .i64 p.h.l, .int .i64 p.h.r] 46
  j : J g pre wr
  kept : ∀ k, K k → k < W.heap.size → wr.heap[k]? = W.heap[k]?
  size : W.heap.size ≤ wr.heap.size

/-- Behind a round: p has been taken, it lies in block g yet. -/
structure S3 (C : List Int) (a : Int) (W : World) (g : Nat) (K : Nat → Prop) (J : Nat → List Pl → World → Prop) (pre : List Pl) (p : Pl) (bF : Nat) (v : Value) (wr : World) : Prop where
  list : walkL C a = pre ++ (p :: walkL C p.z)
  abide : ∀ A B, J g (pre ++ [p]) A → OnlyIn g (g + 1) A B → J g (pre ++ [p]) B
  blk : Blk wr g #[.int .i64 p.a, .int .i64 p.h.s, .int .i64 p.h.o, .int .i64 p.h.l, .int .i64 p.h.r] 46
  j : J g (pre ++ [p]) wr
  kept : ∀ k, K k → k < W.heap.size → wr.heap[k]? = W.heap[k]?
  size : W.heap.size ≤ wr.heap.size
  floor : wr.cell? ⟨bF, 0, none⟩ = some v
  flt : bF < wr.heap.size
section
variable {C : List Int} {a : Int} {W wr w2 : World} {g : Nat} {K : Nat → Prop} {J : Nat → List Pl → World → Prop} {pre : List Pl} {p : Pl} {bF : Nat} {v : Value}
theorem S3.step (h : Hid (S3 C a W g K J pre p bF v wr)) (hb : Below wr.heap.size wr w2) : Hid (S3 C a W g K J pre p bF v w2) :=
  Lib.hid ⟨h.out.list, h.out.abide, h.out.blk.below hb, h.out.abide _ _ h.out.j (OnlyIn.of_below hb), fun k hk hl => (hb.block k (Nat.lt_of_lt_of_le hl h.out.size)).trans (h.out.kept k hk hl), Nat.le_trans h.out.size hb.size,
    (hb.cell (p := ⟨bF, 0, none⟩) h.out.flt).trans h.out.floor, Nat.lt_of_lt_of_le h.out.flt hb.size⟩
theorem S3.cells (h : Hid (S3 C a W g K J pre p bF v wr)) :
    wr.cell? ⟨bF, 0, none⟩ = some v ∧ wr.cell? ⟨g, 0, none⟩ = some (.int .i64 p.a) ∧ wr.cell? ⟨g, 1, none⟩ = some (.int .i64 p.h.s) ∧ wr.cell? ⟨g, 2, none⟩ = some (.int .i64 p.h.o) ∧ wr.cell? ⟨g, 3, none⟩ = some (.int .i64 p.h.l) ∧ wr.cell? ⟨g, 4, none⟩ = some (.int .i64 p.h.r) ∧ wr.frozen? ⟨g, 0, none⟩ = false ∧ wr.frozen? ⟨g, 1, none⟩ = false ∧ wr.frozen? ⟨g, 2, none⟩ = false ∧ wr.frozen? ⟨g, 3, none⟩ = false ∧ wr.frozen? ⟨g, 4, none⟩ = false ∧ Hid (S3 C a W g K J pre p bF v wr) :=
  ⟨h.out.floor, h.out.blk.cell 0, h.out.blk.cell 1, h.out.blk.cell 2, h.out.blk.cell 3, h.out.blk.cell 4, h.out.blk.free 0, h.out.blk.free 1, h.out.blk.free 2, h.out.blk.free 3, h.out.blk.free 4, h⟩
end

theorem left_eq {C : List Int} {a : Int} {W wr : World} {g : Nat} {K : Nat → Prop} {J : Nat → List Pl → World → Prop} {pre : List Pl} {p : Pl} (h : St C a W g K J pre p wr) : left C g (.bool true) wr = (walkL C p.a).length := by
  have := h.blk.cell 0
  simp at this
  simp [left, this]
theorem left_no {C : List Int} {g : Nat} {wr : World} : left C g (.bool false) wr = 0 := by
  unfold left
  split
  · rename_i h _; cases h
  · rfl

theorem left_le {C : List Int} {a : Int} {W wr : World} {g : Nat} {K : Nat → Prop} {J : Nat → List Pl → World → Prop} {pre : List Pl} {p : Pl} (h : St C a W g K J pre p wr) (t : Value) : left C g t wr ≤ (walkL C p.a).length := by
  have := h.blk.cell 0
  simp at this
  unfold left
  split
  · rename_i h2
    rw [this] at h2
    cases h2
    exact Nat.le_refl _
  · exact Nat.zero_le _
theorem blk_set {w : World} {g : Nat} {cs : Array Value} {t : TypeId} (h : Blk w g cs t) (k : Nat) (v : Value) : Blk (w.setCell ⟨g, k, none⟩ v) g (cs.setIfInBounds k v) t := by
  unfold Blk at h ⊢
  simp [World.setCell, Array.getElem?_modify, h]
theorem only_put5 (w : World) (g : Nat) (a b c d e : Value) : OnlyIn g (g + 1) w (put5 w g a b c d e) := by
  have one : ∀ (w : World) (k : Nat) (v : Value), OnlyIn g (g + 1) w (w.setCell ⟨g, k, none⟩ v) := fun w k v => ⟨rfl, rfl, rfl, by simp, fun i hi hn => Below.heap_setCell w _ _ i (by show i ≠ g; omega)⟩
  exact ((((one _ _ _).trans (one _ _ _)).trans (one _ _ _)).trans (one _ _ _)).trans (one _ _ _)
theorem S3.next {C : List Int} {a : Int} {W wr : World} {g : Nat} {K : Nat → Prop} {J : Nat → List Pl → World → Prop} {pre : List Pl} {p : Pl} {bF : Nat} {v : Value} (h : Hid (S3 C a W g K J pre p bF v wr)) (hg : W.heap.size ≤ g) (h0 : 0 ≤ p.z) (h1 : p.z ≤ 1024) :
    Hid (St C a W g K J (pre ++ [p]) ⟨p.a + p.h.s, headAtH C (p.a + p.h.s)⟩ (put5 wr g (.int .i64 (p.a + p.h.s)) (.int .i64 (headAtH C (p.a + p.h.s)).s) (.int .i64 (headAtH C (p.a + p.h.s)).o) (.int .i64 (headAtH C (p.a + p.h.s)).l) (.int .i64 (headAtH C (p.a + p.h.s)).r))) := by
  have ho := only_put5 wr g (.int .i64 (p.a + p.h.s)) (.int .i64 (headAtH C (p.a + p.h.s)).s) (.int .i64 (headAtH C (p.a + p.h.s)).o) (.int .i64 (headAtH C (p.a + p.h.s)).l) (.int .i64 (headAtH C (p.a + p.h.s)).r)
  refine Lib.hid ⟨?_, h0, h1, rfl, ?_, h.out.abide _ _ h.out.j ho, fun k hk hl => (ho.block k (Nat.lt_of_lt_of_le hl h.out.size) (by omega)).trans (h.out.kept k hk hl), Nat.le_trans h.out.size ho.size⟩
  · rw [h.out.list, List.append_assoc]
    rfl
  · have h2 := blk_set (blk_set (blk_set (blk_set (blk_set h.out.blk 0 (.int .i64 (p.a + p.h.s))) 1 (.int .i64 (headAtH C (p.a + p.h.s)).s)) 2 (.int .i64 (headAtH C (p.a + p.h.s)).o)) 3 (.int .i64 (headAtH C (p.a + p.h.s)).l)) 4 (.int .i64 (headAtH C (p.a + p.h.s)).r)
    exact h2

set_option maxRecDepth 100000 in
set_option maxHeartbeats 4000000 in
theorem placesIter (n : Nat) (w : World) {lo hi bF bA : Nat} {v : Value} {C : List Int} {a : Int} (K : Nat → Prop) (h : Rd w lo hi v C) (hL : C.length ≤ 1024) (hy : Byt C) (ha : 0 ≤ a ∧ a ≤ 1024)
    (hF : w.cell? ⟨bF, 0, none⟩ = some v) (hA : w.cell? ⟨bA, 0, none⟩ = some (.int .i64 a)) (hK : ∀ k, lo ≤ k ∧ k < hi ∨ k = bF → K k) (hAK : bA < w.heap.size) (hFK : bF < w.heap.size) (hn : 1 ≤ n) :
    Iter n Try.prog 59 #[.pointer (some ⟨bF, 0, none⟩), .pointer (some ⟨bA, 0, none⟩)] encP K (walkL C a) w := by
  intro l J W hW hJ hY h0
  refine callsIn_wide.2 ?_
  have hF1 : W.cell? ⟨bF, 0, none⟩ = some v := (hW.cell (p := ⟨bF, 0, none⟩) hFK).trans hF
  have hA1 : W.cell? ⟨bA, 0, none⟩ = some (.int .i64 a) := (hW.cell (p := ⟨bA, 0, none⟩) hAK).trans hA
  have HF1 := Lib.hid hF1
  have hFW : bF < W.heap.size := Nat.lt_of_lt_of_le hFK hW.size
  have HR := Lib.hid (h.below hW)
  have HYl := Lib.hid hY
  have HJ := Lib.hid hJ
  have H0 := Lib.hid h0
  have HK := Lib.hid hK
  clear h hF hA hW hK hY hJ h0
  go_enter Try.func59, Try.ntmps59
  go_wp2_with fail
  refine (placeAt W HR.out (by omega) hy ⟨by omega, by omega⟩).mono ?_
  rintro e W1 ⟨rfl, hb1⟩
  have HST : Hid (St C a W W1.heap.size K J [] ⟨a, headAtH C a⟩ (W1.alloc (.cells #[.int .i64 a, .int .i64 (headAtH C a).s, .int .i64 (headAtH C a).o, .int .i64 (headAtH C a).l, .int .i64 (headAtH C a).r] 46))) := by
    have hb2 := hb1.alloc hb1.size (.cells #[.int .i64 a, .int .i64 (headAtH C a).s, .int .i64 (headAtH C a).o, .int .i64 (headAtH C a).l, .int .i64 (headAtH C a).r] 46)
    exact ⟨rfl, ha.1, ha.2, rfl, Blk.new _ _ _, HJ.out _ _ _ _ hb1.size (H0.out _ hb1.size) (OnlyIn.of_below hb2), fun k _ hk => hb2.block k hk, hb2.size⟩
  have hgW : W.heap.size ≤ W1.heap.size := hb1.size
  obtain ⟨g, hg⟩ : ∃ g, g = W1.heap.size := ⟨_, rfl⟩
  have HG := Lib.hid hg
  rw [← hg] at HST hgW
  obtain ⟨X, hX⟩ : ∃ X, X = headAtB C a := ⟨_, rfl⟩
  have HX := Lib.hid hX
  rw [← hX]
  obtain ⟨D, hD⟩ : ∃ D, D = headAtH C a := ⟨_, rfl⟩
  rw [← hD] at HST ⊢
  have HD := Lib.hid hD
  clear hb1 hg H0 hX hD hA1 hF1
  go_wp2_with fail
  rw [← HG.out]
  clear HG
  go_loopw [5] (fun t wr => ∃ pre p, t = .bool (headAtB C p.a) ∧ Hid (St C a W g K J pre p wr)) (fun t wr => left C g t wr)
  case atStart => exact ⟨[], ⟨a, D⟩, by show Value.bool X = _; rw [HX.out], HST⟩
  case round =>
    obtain ⟨pre, p, rfl, hs⟩ := hrel
    obtain ⟨Y, hY⟩ : ∃ Y, Y = headAtB C p.a := ⟨_, rfl⟩
    have HY := Lib.hid hY
    rw [← hY]
    clear hY
    cases Y
    · go_wp2
      go_end0
      have h1 := hs.out.list
      rw [walkL_no HY.out.symm, List.append_nil] at h1
      exact ⟨⟨_, rfl⟩, g, hgW, by rw [h1]; exact hs.out.j⟩
    · have hw1 : walkL C a = pre ++ (p :: walkL C p.z) := by
        have := hs.out.list
        rw [walkL_yes HY.out.symm, ← hs.out.head] at this
        exact this
      have hyl := HYl.out g pre p wr hgW ⟨_, _, hs.out.blk⟩ (by rw [hw1]; exact ⟨walkL C p.z, by simp⟩) hs.out.j
      obtain ⟨fn, tmps, assign, body, hyy, hR⟩ := hyl
      dsimp only [encP] at hyy
      have hmem := walkL_mem (L := C) (a := a) (p := p) (by rw [hw1]; simp)
      have HW1 := Lib.hid hw1
      have HRR := Lib.hid hR
      have HMM := Lib.hid hmem
      clear hw1 hR hmem
      have c0 := hs.out.blk.cell 0
      have c1 := hs.out.blk.cell 1
      have c2 := hs.out.blk.cell 2
      have c3 := hs.out.blk.cell 3
      have c4 := hs.out.blk.cell 4
      refine (wpIn_wide (n := n)).1 ?_
      gi_wp2
      refine HRR.out.mono ?_
      rintro e W3 ⟨rfl, hJ3, hs3, hk3⟩
      have H3 : Hid (S3 C a W g K J pre p bF v W3) := Lib.hid ⟨HW1.out, fun A B => HJ.out g _ A B hgW, by
          show W3.heap[g]? = _
          rw [hk3 g (.inr rfl)]
          exact hs.out.blk, hJ3, fun k hk hl => (hk3 k (.inl hk)).trans (hs.out.kept k hk hl), Nat.le_trans hs.out.size hs3, by
          rw [World.cell?_of_block (hk3 bF (.inl (HK.out bF (.inr rfl)))), World.cell?_of_block (hs.out.kept bF (HK.out bF (.inr rfl)) hFW)]
          exact HF1.out, Nat.lt_of_lt_of_le hFW (Nat.le_trans hs.out.size hs3)⟩
      clear hJ3 hs3 hk3 c0 c1 c2 c3 c4 hyy HRR
      have b0 := HMM.out.1
      have b1 := HMM.out.2.1
      have b2 := HMM.out.2.2.1
      have b3 := HMM.out.2.2.2.1
      have HPA := Lib.hid (fun (w' : World) (h : Hid (S3 C a W g K J pre p bF v w')) => placeAt w' (rd_kept HR.out (fun k h1 h2 h3 => h.out.kept k (HK.out k (.inl ⟨h1, h2⟩)) h3) h.out.size) (by omega) hy (a := p.a + p.h.s) ⟨by omega, by omega⟩)
      gi_wp2
      refine wpIn_wide.2 ?_
      have H3d := S3.step H3 (below_drew W3)
      obtain ⟨e0, e1, e2, e3, e4, e5, f0, f1, f2, f3, f4, _⟩ := S3.cells H3d
      clear H3
      go_region_with (first
        | (go_at_call 49; refine (behind _ b0 b1 (by omega) b3).mono ?_; rintro e w9 ⟨rfl, hb9⟩; have H9 := S3.step H3d hb9; clear hb9; obtain ⟨k0, k1, k2, k3, k4, k5, m0, m1, m2, m3, m4, _⟩ := S3.cells H9)
        | (go_at_call 60; refine (HPA.out _ H9).mono ?_; rintro e w10 ⟨rfl, hb10⟩; have H10 := S3.step H9 hb10; clear hb10; obtain ⟨l0, l1, l2, l3, l4, l5, n0, n1, n2, n3, n4, _⟩ := S3.cells H10))
      all_goals
        have HN := S3.next H10 hgW (by show 0 ≤ p.a + p.h.s; omega) (by have := HMM.out.2.2.2.2.1; show p.a + p.h.s ≤ 1024; omega)
        clear l0 l1 l2 l3 l4 l5 n0 n1 n2 n3 n4
        go_wp2
        go_roundw
        case rel => first | exact ⟨pre ++ [p], ⟨p.a + p.h.s, headAtH C (p.a + p.h.s)⟩, rfl, HN⟩ | ((repeat apply Exists.intro); exact ⟨⟨pre ++ [p], ⟨p.a + p.h.s, headAtH C (p.a + p.h.s)⟩, rfl, HN⟩, rfl⟩)
        case measure =>
          have m1 := left_le HN.out (.bool (headAtB C (p.a + p.h.s)))
          have m2 := left_eq hs.out
          have m3 : (walkL C p.a).length = (walkL C (p.a + p.h.s)).length + 1 := by
            have h1 := hs.out.list
            rw [HW1.out] at h1
            have h2 := List.append_cancel_left h1
            rw [← h2]
            rfl
          show left C g _ (put5 w10 g _ _ _ _ _) < left C g (.bool true) wr
          rw [m2, m3]
          exact Nat.lt_succ_of_le m1
end Go.Proofs.Ytamgikcoknkghab.WalkI

/-
  FnHeads: whatever heads and floors are drawn, the program answers as the model does; what is written of a head is read from it, and of one byte too few nothing. No condition.
-/
import Derived.Test.YtamgikcoknkghaaDraw2A
import Derived.Test.YtamgikcoknkghaaPure2B
import Derived.Test.YtamgikcoknkghaaIn
import Derived.Deep.RegionHeld3
import Derived.BigQuiet
namespace Go.Proofs.Ytamgikcoknkghaa.fnHeadsW
open Go.RowKit Go.Proofs.Ytamgikcoknkghaa.Mem Go.Proofs.Ytamgikcoknkghaa.Pure Go.Proofs.Ytamgikcoknkghaa.Help Go.Proofs.Ytamgikcoknkghaa.FloorI Go.Proofs.Ytamgikcoknkghaa.HeadI Go.Proofs.Ytamgikcoknkghaa.Cur
set_option linter.unusedVariables false

set_option maxHeartbeats 1000000 in
theorem big (w : World) {v : Value} {lo hi : Nat} {L : List Int} (h : Rd w lo hi v L) :
    Calls Try.prog 9 #[v] w fun e w' => e = .returned (.bool (decide (4096 < L.length))) ∧ w = w' := by
  obtain ⟨A, c, rfl, _, hm, _⟩ := h
  unfold maxLen at hm
  go_enter Try.func9, Try.ntmps9
  go_wp2
  go_ret
  refine ⟨?_, rfl⟩
  first | rfl | (simp; omega)

/-- What stands while the test is walked: three heads in blocks of their own, the bytes. -/
structure Bun (w w' : World) (k3 k7 k9 : Nat) (s o l r : Int) (D : Hd) (lo hi : Nat) (v : Value) (M : List Int) : Prop where
  a : Blk w' k3 #[.int .i64 s, .int .i64 o, .int .i64 l, .int .i64 r] 41
  b : Blk w' k7 #[.int .i64 D.s, .int .i64 D.o, .int .i64 D.l, .int .i64 D.r] 41
  c : Blk w' k9 #[.int .i64 D.s, .int .i64 D.o, .int .i64 D.l, .int .i64 D.r] 41
  d : Own w' lo hi v M
  e : Below w.heap.size w w'
  f : hi ≤ w'.heap.size
section
variable {w w' w2 : World} {k3 k7 k9 : Nat} {s o l r : Int} {D : Hd} {lo hi : Nat} {v : Value} {M : List Int}
theorem Bun.step (h : Hid (Bun w w' k3 k7 k9 s o l r D lo hi v M)) (hb : Below w'.heap.size w' w2) : Hid (Bun w w2 k3 k7 k9 s o l r D lo hi v M) :=
  ⟨h.out.a.below hb, h.out.b.below hb, h.out.c.below hb, h.out.d.below hb, below_then h.out.e hb (Nat.le_refl _), Nat.le_trans h.out.f hb.size⟩
theorem Bun.rdv (h : Hid (Bun w w' k3 k7 k9 s o l r D lo hi v M)) : Rd w' lo hi v M := h.out.d.rd
theorem Bun.cells (h : Hid (Bun w w' k3 k7 k9 s o l r D lo hi v M)) :
    w'.cell? ⟨k3, 0, none⟩ = some (.int .i64 s) ∧ w'.cell? ⟨k3, 1, none⟩ = some (.int .i64 o) ∧ w'.cell? ⟨k3, 2, none⟩ = some (.int .i64 l) ∧ w'.cell? ⟨k3, 3, none⟩ = some (.int .i64 r) ∧
    w'.cell? ⟨k7, 0, none⟩ = some (.int .i64 D.s) ∧ w'.cell? ⟨k7, 1, none⟩ = some (.int .i64 D.o) ∧ w'.cell? ⟨k7, 2, none⟩ = some (.int .i64 D.l) ∧ w'.cell? ⟨k7, 3, none⟩ = some (.int .i64 D.r) ∧
    w'.cell? ⟨k9, 0, none⟩ = some (.int .i64 D.s) ∧ w'.cell? ⟨k9, 1, none⟩ = some (.int .i64 D.o) ∧ w'.cell? ⟨k9, 2, none⟩ = some (.int .i64 D.l) ∧ w'.cell? ⟨k9, 3, none⟩ = some (.int .i64 D.r) ∧ Hid (Bun w w' k3 k7 k9 s o l r D lo hi v M) :=
  ⟨h.out.a.cell 0, h.out.a.cell 1, h.out.a.cell 2, h.out.a.cell 3, h.out.b.cell 0, h.out.b.cell 1, h.out.b.cell 2, h.out.b.cell 3, h.out.c.cell 0, h.out.c.cell 1, h.out.c.cell 2, h.out.c.cell 3, h⟩
end

set_option maxRecDepth 100000 in
set_option maxHeartbeats 4000000 in
theorem small (a0 : Option Addr) (len0 cap0 : Nat) (z0 : List Int) (w : World) (q0 : IsRow .u8 w a0 len0 cap0 z0) (hs0 : len0 ≤ 4096) :
    Calls Try.prog 8 #[.slice a0 len0 cap0] w fun e w' => e = .returned (.bool true) ∧ Below w.heap.size w w' := by
  have r0 := q0.rd
  have hlen0 := q0.len
  have hy0 := q0.byt
  obtain ⟨C, hC⟩ : ∃ Z, Z = z0.take len0 := ⟨_, rfl⟩
  rw [← hC] at r0 hlen0 hy0
  have HR0 := Lib.hid r0; have HL0 : Hid (C.length ≤ 4096) := Lib.hid (by omega); have HY0 := Lib.hid hy0
  have HBIG : Hid (∀ w1 : World, Below w.heap.size w w1 → Calls Try.prog 9 #[.slice a0 len0 cap0] w1 fun e w2 => e = .returned (.bool false) ∧ w1 = w2) := Lib.hid (fun w1 hb => by have := big w1 (r0.below hb); rwa [decide_eq_false (by omega)] at this)
  clear r0 hlen0 hy0 hC q0 hs0
  go_enter Try.func8, Try.ntmps8
  go_wp2_with fail
  refine (HBIG.out w (Below.refl _ _)).mono ?_
  rintro e w1 ⟨rfl, rfl⟩
  go_wp2_with fail
  refine (drawHeadBytes w HR0.out HL0.out HY0.out).mono ?_
  rintro e w1 ⟨s, o, l, r, rfl, is, io, il, ir, hb1⟩
  have HB1 := Lib.hid hb1
  have HN1 : Hid (Below w.heap.size w (w1.alloc (.cells #[.int .i64 s, .int .i64 o, .int .i64 l, .int .i64 r] 41))) := Lib.hid (below_then hb1 ((Below.refl _ _).alloc (Nat.le_refl _) _) (Nat.le_refl _))
  clear hb1 is io il ir
  have HI := Lib.hid (fun w' : World => HeadI.headOk w' (s := s) (o := o) (l := l) (r := r))
  have HS := Lib.hid (fun w' : World => HeadS.headOk w' (s := s) (o := o) (l := l) (r := r))
  have HBI := Lib.hid (fun w' : World => HeadI.headBytes w' (s := s) (o := o) (l := l) (r := r))
  have HBS := Lib.hid (fun w' : World => HeadS.headBytes w' (s := s) (o := o) (l := l) (r := r))
  have HBY := Lib.hid (byt_headL s o l r)
  cases hb : headB s o l r
  · rw [hb] at HI HS
    have HK : Hid ((headL s o l r).length = 0) := Lib.hid (by unfold headL; rw [if_neg (by simp [hb])]; rfl)
    clear hb
    go_wp2_with fail
    refine (HBI.out _).mono ?_
    rintro e w2 ⟨v2, rfl, ho2, hb2⟩
    have HA2 : Hid (Blk w2 w1.heap.size #[.int .i64 s, .int .i64 o, .int .i64 l, .int .i64 r] 41) := Lib.hid ((Blk.new w1 _ _).below hb2)
    obtain ⟨A2, c2, hv2, _, _, _⟩ := ho2.rd
    rw [HK.out] at hv2
    subst hv2
    have HO2 := Lib.hid (ho2.more (lo' := w1.heap.size.succ) (by simp) (Nat.le_refl _))
    have HB2 : Hid (Below w.heap.size w w2) := Lib.hid (below_then HN1.out hb2 (Nat.le_refl _))
    clear ho2 hb2
    go_wp2_with fail
    refine (drawHeadAt w2 ((HR0.out.below HB2.out).more (Nat.le_refl _) HB2.out.size) HL0.out HY0.out).mono ?_
    rintro e w3 ⟨v3, L, a, rfl, ho3, hy3, hl3, ha3, hb3⟩
    have HZ3 := Lib.hid hb3.size
    have HA3 := Lib.hid (HA2.out.below hb3)
    have HO3 := Lib.hid (HO2.out.below hb3)
    have HV3 := Lib.hid ho3
    have HB3 : Hid (Below w.heap.size w w3) := Lib.hid (below_then HB2.out hb3 (Nat.le_refl _))
    have hHI := fun (w' : World) (hb : Below w3.heap.size w3 w') => HeadI.headAt w' (ho3.rd.below hb) (show L.length ≤ 1048576 by omega) hy3 ha3
    have hHS := fun (w' : World) (hb : Below w3.heap.size w3 w') => HeadS.headAt w' (ho3.rd.below hb) (show L.length ≤ 1048576 by omega) hy3 ha3
    obtain ⟨D, hD⟩ : ∃ D, D = headAtH L a := ⟨_, rfl⟩
    obtain ⟨X, hX⟩ : ∃ X, X = headAtB L a := ⟨_, rfl⟩
    rw [← hD, ← hX] at hHI hHS
    have HHI := Lib.hid hHI
    have HHS := Lib.hid hHS
    clear hHI hHS hD hX ho3 hb3 hy3 ha3
    go_wp2_with fail
    refine (HHI.out w3 (Below.refl _ _)).mono ?_
    rintro e w4 ⟨rfl, hb4⟩
    have HN4 : Hid (Below w3.heap.size w3 (w4.alloc (.cells #[.int .i64 D.s, .int .i64 D.o, .int .i64 D.l, .int .i64 D.r] 41))) := Lib.hid (below_then hb4 ((Below.refl _ _).alloc (Nat.le_refl _) _) (Nat.le_refl _))
    clear hb4
    go_wp2_with fail
    refine (HHS.out _ HN4.out).mono ?_
    rintro e w5 ⟨rfl, hb5⟩
    have hn5 : Below w5.heap.size w5 (w5.alloc (.cells #[.int .i64 D.s, .int .i64 D.o, .int .i64 D.l, .int .i64 D.r] 41)) := (Below.refl _ _).alloc (Nat.le_refl _) _
    have HU : Hid (Bun w (w5.alloc (.cells #[.int .i64 D.s, .int .i64 D.o, .int .i64 D.l, .int .i64 D.r] 41)) w1.heap.size w4.heap.size w5.heap.size s o l r D _ _ (.slice A2 0 c2) _) := Lib.hid
      ⟨((HA3.out.below HN4.out).below hb5).below hn5, ((Blk.new w4 _ _).below hb5).below hn5, Blk.new w5 _ _, ((HO3.out.below HN4.out).below hb5).below hn5, below_then (below_then (below_then HB3.out HN4.out (Nat.le_refl _)) hb5 (Nat.le_refl _)) hn5 (Nat.le_refl _), Nat.le_trans HZ3.out (Nat.le_trans HN4.out.size (Nat.le_trans hb5.size hn5.size))⟩
    clear hb5 hn5
    have huc := Bun.cells HU
    go_wp2_with fail
    go_region_held3 (fun w' => w'.cell? ⟨w1.heap.size, 0, none⟩ = some (.int .i64 s) ∧ w'.cell? ⟨w1.heap.size, 1, none⟩ = some (.int .i64 o) ∧ w'.cell? ⟨w1.heap.size, 2, none⟩ = some (.int .i64 l) ∧ w'.cell? ⟨w1.heap.size, 3, none⟩ = some (.int .i64 r) ∧ w'.cell? ⟨w4.heap.size, 0, none⟩ = some (.int .i64 D.s) ∧ w'.cell? ⟨w4.heap.size, 1, none⟩ = some (.int .i64 D.o) ∧ w'.cell? ⟨w4.heap.size, 2, none⟩ = some (.int .i64 D.l) ∧ w'.cell? ⟨w4.heap.size, 3, none⟩ = some (.int .i64 D.r) ∧ w'.cell? ⟨w5.heap.size, 0, none⟩ = some (.int .i64 D.s) ∧ w'.cell? ⟨w5.heap.size, 1, none⟩ = some (.int .i64 D.o) ∧ w'.cell? ⟨w5.heap.size, 2, none⟩ = some (.int .i64 D.l) ∧ w'.cell? ⟨w5.heap.size, 3, none⟩ = some (.int .i64 D.r) ∧ Hid (Bun w w' w1.heap.size w4.heap.size w5.heap.size s o l r D w1.heap.size.succ w2.heap.size (.slice A2 0 c2) (headL s o l r)))
      (first | exact huc | (go_split_ands; exact Bun.cells (Bun.step (by assumption) hb9)) | (go_split_ands; exact Bun.cells (Bun.step (by assumption) (below_drew _))) | go_keep)
      (first | (go_at_call 31; refine (HBS.out _).mono ?_; rintro e w9 ⟨v9, rfl, ho9, hb9⟩) | (go_at_call 21; go_split_ands; refine (likeSame _ (Bun.rdv (by assumption)) ho9.rd HBY.out).mono ?_; rintro e w10 ⟨rfl, hb9⟩) | (go_at_call 32; refine (HI.out _).mono ?_; rintro e w11 ⟨rfl, hb9⟩) | (go_at_call 33; refine (HS.out _).mono ?_; rintro e w12 ⟨rfl, hb9⟩))
    have HU12 : Hid (Bun w w12 w1.heap.size w4.heap.size w5.heap.size s o l r D w1.heap.size.succ w2.heap.size (.slice A2 0 c2) (headL s o l r)) := by (go_split_ands; assumption)
    obtain ⟨c0, c1, c2', c3⟩ := HU12.out.a.cells4
    go_wp2_with fail
    refine (HS.out _).mono ?_
    rintro e w13 ⟨rfl, hb13⟩
    have HU13 := Bun.step HU12 hb13
    clear hb13 c0 c1 c2' c3
    go_wp2
    go_ret
    exact ⟨rfl, HU13.out.e⟩
  · have h1 := headB_iff.1 hb
    obtain ⟨n, rfl⟩ : ∃ n : Nat, s = n := ⟨s.toNat, by omega⟩
    have h6 : 6 ≤ n := by omega
    have h1000 : n ≤ 1000 := by omega
    have HK : Hid ((headL n o l r).length = 6) := Lib.hid (by unfold headL; rw [if_pos hb]; rfl)
    have hfl := headFloor_length n o l r
    rw [Int.toNat_natCast] at hfl
    have hfy := headFloor_byt n o l r
    have hbk := headFloor_back hb
    have hsh := headFloor_short hb
    rw [Int.toNat_natCast] at hsh
    have hFI := fun (w' : World) (lo hi : Nat) (v : Value) (hr : Rd w' lo hi v (headFloor n o l r)) => HeadI.headAt w' hr (by omega) hfy (a := 0) (by unfold I64; omega)
    have hFS := fun (w' : World) (lo hi : Nat) (v : Value) (hr : Rd w' lo hi v ((headFloor n o l r).take (n - 1))) => HeadI.headAt w' hr (by rw [List.length_take]; omega) (fun x hx => hfy x (List.mem_of_mem_take hx)) (a := 0) (by unfold I64; omega)
    have hzz : headAtH ((headFloor n o l r).take (n - 1)) 0 = Hd.zero := by unfold headAtH; rw [hsh]; rfl
    rw [hbk.1, hbk.2] at hFI
    rw [hsh, hzz] at hFS
    have hlaid : laidL (List.replicate n 0) 0 (headL n o l r) = headFloor n o l r := rfl
    have HLD := Lib.hid hlaid
    have HFI := Lib.hid hFI
    have HFS := Lib.hid hFS
    have HFL := Lib.hid hfl
    rw [hb] at HI HS
    clear hb h1 hfl hfy hbk hsh hFI hFS hzz hlaid
    go_wp2_with fail
    refine (HBI.out _).mono ?_
    rintro e w2 ⟨v2, rfl, ho2, hb2⟩
    have HA2 : Hid (Blk w2 w1.heap.size #[.int .i64 n, .int .i64 o, .int .i64 l, .int .i64 r] 41) := Lib.hid ((Blk.new w1 _ _).below hb2)
    obtain ⟨A2, c2, hv2, _, _, _⟩ := ho2.rd
    rw [HK.out] at hv2
    subst hv2
    have HO2 := Lib.hid (ho2.more (lo' := w1.heap.size.succ) (by simp) (Nat.le_refl _))
    have HB2 : Hid (Below w.heap.size w w2) := Lib.hid (below_then HN1.out hb2 (Nat.le_refl _))
    clear ho2 hb2
    go_wp2_with fail
    refine (drawHeadAt w2 ((HR0.out.below HB2.out).more (Nat.le_refl _) HB2.out.size) HL0.out HY0.out).mono ?_
    rintro e w3 ⟨v3, L, a, rfl, ho3, hy3, hl3, ha3, hb3⟩
    have HZ3 := Lib.hid hb3.size
    have HA3 := Lib.hid (HA2.out.below hb3)
    have HO3 := Lib.hid (HO2.out.below hb3)
    have HV3 := Lib.hid ho3
    have HB3 : Hid (Below w.heap.size w w3) := Lib.hid (below_then HB2.out hb3 (Nat.le_refl _))
    have hHI := fun (w' : World) (hb : Below w3.heap.size w3 w') => HeadI.headAt w' (ho3.rd.below hb) (show L.length ≤ 1048576 by omega) hy3 ha3
    have hHS := fun (w' : World) (hb : Below w3.heap.size w3 w') => HeadS.headAt w' (ho3.rd.below hb) (show L.length ≤ 1048576 by omega) hy3 ha3
    obtain ⟨D, hD⟩ : ∃ D, D = headAtH L a := ⟨_, rfl⟩
    obtain ⟨X, hX⟩ : ∃ X, X = headAtB L a := ⟨_, rfl⟩
    rw [← hD, ← hX] at hHI hHS
    have HHI := Lib.hid hHI
    have HHS := Lib.hid hHS
    clear hHI hHS hD hX ho3 hb3 hy3 ha3
    go_wp2_with fail
    refine (HHI.out w3 (Below.refl _ _)).mono ?_
    rintro e w4 ⟨rfl, hb4⟩
    have HN4 : Hid (Below w3.heap.size w3 (w4.alloc (.cells #[.int .i64 D.s, .int .i64 D.o, .int .i64 D.l, .int .i64 D.r] 41))) := Lib.hid (below_then hb4 ((Below.refl _ _).alloc (Nat.le_refl _) _) (Nat.le_refl _))
    clear hb4
    go_wp2_with fail
    refine (HHS.out _ HN4.out).mono ?_
    rintro e w5 ⟨rfl, hb5⟩
    have hn5 : Below w5.heap.size w5 (w5.alloc (.cells #[.int .i64 D.s, .int .i64 D.o, .int .i64 D.l, .int .i64 D.r] 41)) := (Below.refl _ _).alloc (Nat.le_refl _) _
    have HU : Hid (Bun w (w5.alloc (.cells #[.int .i64 D.s, .int .i64 D.o, .int .i64 D.l, .int .i64 D.r] 41)) w1.heap.size w4.heap.size w5.heap.size n o l r D _ _ (.slice A2 6 c2) _) := Lib.hid
      ⟨((HA3.out.below HN4.out).below hb5).below hn5, ((Blk.new w4 _ _).below hb5).below hn5, Blk.new w5 _ _, ((HO3.out.below HN4.out).below hb5).below hn5, below_then (below_then (below_then HB3.out HN4.out (Nat.le_refl _)) hb5 (Nat.le_refl _)) hn5 (Nat.le_refl _), Nat.le_trans HZ3.out (Nat.le_trans HN4.out.size (Nat.le_trans hb5.size hn5.size))⟩
    clear hb5 hn5
    have huc := Bun.cells HU
    go_wp2_with fail
    go_region_held3 (fun w' => w'.cell? ⟨w1.heap.size, 0, none⟩ = some (.int .i64 n) ∧ w'.cell? ⟨w1.heap.size, 1, none⟩ = some (.int .i64 o) ∧ w'.cell? ⟨w1.heap.size, 2, none⟩ = some (.int .i64 l) ∧ w'.cell? ⟨w1.heap.size, 3, none⟩ = some (.int .i64 r) ∧ w'.cell? ⟨w4.heap.size, 0, none⟩ = some (.int .i64 D.s) ∧ w'.cell? ⟨w4.heap.size, 1, none⟩ = some (.int .i64 D.o) ∧ w'.cell? ⟨w4.heap.size, 2, none⟩ = some (.int .i64 D.l) ∧ w'.cell? ⟨w4.heap.size, 3, none⟩ = some (.int .i64 D.r) ∧ w'.cell? ⟨w5.heap.size, 0, none⟩ = some (.int .i64 D.s) ∧ w'.cell? ⟨w5.heap.size, 1, none⟩ = some (.int .i64 D.o) ∧ w'.cell? ⟨w5.heap.size, 2, none⟩ = some (.int .i64 D.l) ∧ w'.cell? ⟨w5.heap.size, 3, none⟩ = some (.int .i64 D.r) ∧ Hid (Bun w w' w1.heap.size w4.heap.size w5.heap.size n o l r D w1.heap.size.succ w2.heap.size (.slice A2 6 c2) (headL n o l r)))
      (first | exact huc | (go_split_ands; exact Bun.cells (Bun.step (by assumption) hb9)) | (go_split_ands; exact Bun.cells (Bun.step (by assumption) (below_drew _))) | go_keep)
      (first | (go_at_call 31; refine (HBS.out _).mono ?_; rintro e w9 ⟨v9, rfl, ho9, hb9⟩) | (go_at_call 21; go_split_ands; refine (likeSame _ (Bun.rdv (by assumption)) ho9.rd HBY.out).mono ?_; rintro e w10 ⟨rfl, hb9⟩) | (go_at_call 32; refine (HI.out _).mono ?_; rintro e w11 ⟨rfl, hb9⟩) | (go_at_call 33; refine (HS.out _).mono ?_; rintro e w12 ⟨rfl, hb9⟩))
    have HU12 : Hid (Bun w w12 w1.heap.size w4.heap.size w5.heap.size n o l r D w1.heap.size.succ w2.heap.size (.slice A2 6 c2) (headL n o l r)) := by (go_split_ands; assumption)
    obtain ⟨c0, c1, c2', c3⟩ := HU12.out.a.cells4
    go_wp2_with fail
    refine (HS.out _).mono ?_
    rintro e w13 ⟨rfl, hb13⟩
    have HU13 := Bun.step HU12 hb13
    clear hb13 c0 c1 c2' c3
    obtain ⟨i0, hi0, hz0, hz1, hz2⟩ := info_parts infoB
    obtain ⟨c0, c1, c2', c3⟩ := HU13.out.a.cells4
    have hn0 : (0 : Int) ≤ n := by omega
    go_wp2_with (at_make; refine wpList_make_full _ rfl _ _ 22 rfl w13.heap.size 5 i0 (.int .u8 0) 1 Try.underlying22 hi0 hz0 hz1 .i64 .i64 _ _ n rfl rfl rfl rfl ?_ ?_ ?_ ?_)
    · rw [hz2]; omega
    · unfold maxLen; omega
    · exact Nat.le_refl _
    intro w14 hown hgr
    have hb14 : Below w13.heap.size w13 w14 := (Below.refl _ _).grown hgr (Nat.le_refl _) (fun k hk => by cases hk)
    have HU14 := Bun.step HU13 hb14
    have HO14 : Hid (Own w14 w13.heap.size w14.heap.size (.slice (some ⟨w13.heap.size, 0, none⟩) n n) (List.replicate n 0)) :=
      own_of_row hown (by simp) ((toList_madeCells_one _ _).trans (by simp))
    clear hown hgr hb14 c0 c1 c2' c3
    go_wp2_with fail
    have hl := FloorS.laid w14 HO14.out.rd (Bun.rdv HU14) HU14.out.f (by simp; omega) (by have := HK.out; omega) (a := 0) (by unfold I64; omega)
    rw [HLD.out] at hl
    have HL := Lib.hid hl
    clear hl
    refine HL.out.mono ?_
    rintro e w15 ⟨v15, rfl, ho15, hb15⟩
    have HU15 := Bun.step HU14 hb15
    obtain ⟨A15, c15, hv15, hc15, hm15, _⟩ := ho15.rd
    rw [HFL.out] at hv15 hc15
    subst hv15
    have HO15 := Lib.hid ho15
    clear HL ho15 hb15
    go_wp2_with fail
    refine (HFI.out w15 _ _ _ HO15.out.rd).mono ?_
    rintro e w16 ⟨rfl, hb16⟩
    have HU16 := Bun.step HU15 hb16
    have HO16 := Lib.hid (HO15.out.below hb16)
    clear hb16
    have hn16 : Below w16.heap.size w16 (w16.alloc (.cells #[.int .i64 n, .int .i64 o, .int .i64 l, .int .i64 r] 41)) := (Below.refl _ _).alloc (Nat.le_refl _) _
    have HN16 := Lib.hid hn16
    obtain ⟨c0, _, _, _⟩ := HU16.out.a.cells4
    have hlt16 := HU16.out.a.lt
    have hsl : ¬ c15 = 0 := by omega
    have hd : Rd (w16.alloc (.cells #[.int .i64 n, .int .i64 o, .int .i64 l, .int .i64 r] 41)) w14.heap.size w15.heap.size (.slice A15 (n - 1) c15) ((headFloor n o l r).take (n - 1)) :=
      (HO16.out.below hn16).rd.part (a := 0) (n := n - 1) ⟨A15, n, c15, A15, c15, rfl, rfl, by omega, hm15, fun _ => by rcases A15 with _ | ⟨b, o, sp⟩ <;> simp [Addr.add]⟩ (by have := HFL.out; omega)
    have HD := Lib.hid hd
    clear hn16 hm15 hd
    go_wp2_with fail
    refine (HFS.out _ _ _ _ HD.out).mono ?_
    rintro e w17 ⟨rfl, hb17⟩
    have HU17 := Bun.step (Bun.step HU16 HN16.out) hb17
    have HY17 := Lib.hid ((Blk.new w16 _ _).below hb17)
    clear hb17 c0 hlt16 hsl hc15
    obtain ⟨c0, c1, c2', c3⟩ := HU17.out.a.cells4
    obtain ⟨d0, d1, d2, d3⟩ := HY17.out.cells4
    have hlt1 := HU17.out.a.lt
    have hlt2 := HY17.out.lt
    go_wp2
    go_ret
    exact ⟨by first | rfl | simp, HU17.out.e.alloc HU17.out.e.size _⟩

set_option maxRecDepth 100000 in
set_option maxHeartbeats 1000000 in
theorem walk (a0 : Option Addr) (len0 cap0 : Nat) (z0 : List Int) (w : World) (q0 : IsRow .u8 w a0 len0 cap0 z0) :
    Calls Try.prog 8 #[.slice a0 len0 cap0] w fun e w' => e = .returned (.bool true) ∧ Below w.heap.size w w' := by
  by_cases hs : len0 ≤ 4096
  · exact small a0 len0 cap0 z0 w q0 hs
  · have hb := big w q0.rd
    rw [q0.len, decide_eq_true (by omega)] at hb
    have HB := Lib.hid hb
    clear hb
    go_enter Try.func8, Try.ntmps8
    go_wp2_with fail
    refine HB.out.mono ?_
    rintro e w1 ⟨rfl, rfl⟩
    go_wp2
    go_ret
    exact ⟨rfl, Below.refl _ _⟩
end Go.Proofs.Ytamgikcoknkghaa.fnHeadsW

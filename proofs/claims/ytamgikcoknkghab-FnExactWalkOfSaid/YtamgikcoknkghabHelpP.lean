/-
  The laws' own helpers on slices of places: eqPlaceS and likePlaces at two slices that read alike, markPlaceS, heldPlaceS. At most 1048576 places.
-/
import Derived.Test.YtamgikcoknkghabWalkOfI
import Derived.Test.YtamgikcoknkghabHeadS
import Derived.Deep.RegionHeld3
import Derived.Deep.Cut
namespace Go.Proofs.Ytamgikcoknkghab.HelpP
open Go.RowKit Go.Proofs.Ytamgikcoknkghab.Mem Go.Proofs.Ytamgikcoknkghab.Pure Go.Proofs.Ytamgikcoknkghab.Help Go.Proofs.Ytamgikcoknkghab.FloorI Go.Proofs.Ytamgikcoknkghab.HeadI Go.Proofs.Ytamgikcoknkghab.Seq Go.Proofs.Ytamgikcoknkghab.WalkI
set_option linter.unusedVariables false

set_option maxHeartbeats 400000 in
theorem eqPlace_same (w : World) {a s o l r : Int} :
    Calls Try.prog 51 #[.agg #[.int .i64 a, .int .i64 s, .int .i64 o, .int .i64 l, .int .i64 r], .agg #[.int .i64 a, .int .i64 s, .int .i64 o, .int .i64 l, .int .i64 r]] w (RetV w (.bool true)) := by
  go_enter Try.func51, Try.ntmps51
  go_wp2_with fail
  refine (HeadS.eqHead_same _).mono ?_
  rintro e w1 ⟨rfl, hb1⟩
  go_wp2
  go_ret
  exact ⟨rfl, below_then (((Below.refl _ _).alloc (Nat.le_refl _) _).alloc (by simp) _) hb1 (Nat.le_refl _)⟩

/-- Two slices that read alike. -/
structure Two (w0 : World) (va vb : Value) (P : List Pl) (wr : World) : Prop where
  a : RdR wr 0 wr.heap.size 5 va (P.map plC)
  b : RdR wr 0 wr.heap.size 5 vb (P.map plC)
  below : Below w0.heap.size w0 wr
theorem rdR_all {w : World} {lo hi sz : Nat} {v : Value} {R : List (List Value)} (h : RdR w lo hi sz v R) : RdR w 0 w.heap.size sz v R := by
  obtain ⟨A, c, hv, hc, hm, hk⟩ := h
  refine ⟨A, c, hv, hc, hm, fun i r hr => ?_⟩
  obtain ⟨b, o, hA, h1, h2, h3, h4⟩ := hk i r hr
  exact ⟨b, o, hA, Nat.zero_le _, h3, h3, h4⟩
theorem Two.step {w0 wr w2 : World} {va vb : Value} {P : List Pl} (h : Hid (Two w0 va vb P wr)) (hb : Below wr.heap.size wr w2) : Hid (Two w0 va vb P w2) :=
  Lib.hid ⟨rdR_all (h.out.a.below hb), rdR_all (h.out.b.below hb), below_then h.out.below hb (Nat.le_refl _)⟩
theorem pl_at {P : List Pl} {k : Nat} (hk : k < P.length) : ∃ p, P[k]? = some p ∧ (P.map plC)[k]? = some (plC p) := ⟨P[k], List.getElem?_eq_getElem hk, by rw [List.getElem?_map, List.getElem?_eq_getElem hk]; rfl⟩
/-- The cells of one place. -/
theorem five {w : World} {lo hi : Nat} {A : Option Addr} {n c : Nat} {P : List Pl} {k : Nat} {p : Pl} (h : RdR w lo hi 5 (.slice A n c) (P.map plC)) (hk : (P.map plC)[k]? = some (plC p)) :
    ∃ b o, A = some ⟨b, o, none⟩ ∧ b < w.heap.size ∧ w.cell? ⟨b, o + k * 5, none⟩ = some (.int .i64 p.a) ∧ w.cell? ⟨b, o + k * 5 + 1, none⟩ = some (.int .i64 p.h.s) ∧ w.cell? ⟨b, o + k * 5 + 2, none⟩ = some (.int .i64 p.h.o) ∧
      w.cell? ⟨b, o + k * 5 + 3, none⟩ = some (.int .i64 p.h.l) ∧ w.cell? ⟨b, o + k * 5 + 4, none⟩ = some (.int .i64 p.h.r) := by
  obtain ⟨b, o, hA, _, _, h3, h4⟩ := h.spot hk
  exact ⟨b, o, hA, h3, h4 0 _ (by omega) rfl, h4 1 _ (by omega) rfl, h4 2 _ (by omega) rfl, h4 3 _ (by omega) rfl, h4 4 _ (by omega) rfl⟩

theorem fiveAt {w : World} {lo hi b o : Nat} {n c : Nat} {P : List Pl} {k : Nat} {p : Pl} (h : RdR w lo hi 5 (.slice (some ⟨b, o, none⟩) n c) (P.map plC)) (hk : (P.map plC)[k]? = some (plC p)) :
    w.cell? ⟨b, o + k * 5, none⟩ = some (.int .i64 p.a) ∧ w.cell? ⟨b, o + k * 5 + 1, none⟩ = some (.int .i64 p.h.s) ∧ w.cell? ⟨b, o + k * 5 + 2, none⟩ = some (.int .i64 p.h.o) ∧
      w.cell? ⟨b, o + k * 5 + 3, none⟩ = some (.int .i64 p.h.l) ∧ w.cell? ⟨b, o + k * 5 + 4, none⟩ = some (.int .i64 p.h.r) := by
  obtain ⟨b', o', hA, _, h1⟩ := five h hk
  injection hA with hA
  injection hA with e1 e2
  subst e1 e2
  exact h1
theorem Two.ten {w0 wr : World} {b1 o1 n1 c1 b2 o2 n2 c2 k : Nat} {P : List Pl} {p : Pl} (h : Hid (Two w0 (.slice (some ⟨b1, o1, none⟩) n1 c1) (.slice (some ⟨b2, o2, none⟩) n2 c2) P wr)) (hk : (P.map plC)[k]? = some (plC p)) :
    wr.cell? ⟨b1, o1 + k * 5, none⟩ = some (.int .i64 p.a) ∧ wr.cell? ⟨b1, o1 + k * 5 + 1, none⟩ = some (.int .i64 p.h.s) ∧ wr.cell? ⟨b1, o1 + k * 5 + 2, none⟩ = some (.int .i64 p.h.o) ∧ wr.cell? ⟨b1, o1 + k * 5 + 3, none⟩ = some (.int .i64 p.h.l) ∧ wr.cell? ⟨b1, o1 + k * 5 + 4, none⟩ = some (.int .i64 p.h.r) ∧
    wr.cell? ⟨b2, o2 + k * 5, none⟩ = some (.int .i64 p.a) ∧ wr.cell? ⟨b2, o2 + k * 5 + 1, none⟩ = some (.int .i64 p.h.s) ∧ wr.cell? ⟨b2, o2 + k * 5 + 2, none⟩ = some (.int .i64 p.h.o) ∧ wr.cell? ⟨b2, o2 + k * 5 + 3, none⟩ = some (.int .i64 p.h.l) ∧ wr.cell? ⟨b2, o2 + k * 5 + 4, none⟩ = some (.int .i64 p.h.r) ∧
    Hid (Two w0 (.slice (some ⟨b1, o1, none⟩) n1 c1) (.slice (some ⟨b2, o2, none⟩) n2 c2) P wr) := by
  obtain ⟨x0, x1, x2, x3, x4⟩ := fiveAt h.out.a hk
  obtain ⟨y0, y1, y2, y3, y4⟩ := fiveAt h.out.b hk
  exact ⟨x0, x1, x2, x3, x4, y0, y1, y2, y3, y4, h⟩

set_option maxHeartbeats 1000000 in
theorem eqPlaceS_same (w : World) {la ha lb hb : Nat} {va vb : Value} {P : List Pl} (hA : RdR w la ha 5 va (P.map plC)) (hB : RdR w lb hb 5 vb (P.map plC)) :
    Calls Try.prog 29 #[va, vb] w (RetV w (.bool true)) := by
  have HT : Hid (Two w va vb P w) := Lib.hid ⟨rdR_all hA, rdR_all hB, Below.refl _ _⟩
  obtain ⟨A, ca, rfl, hca, hma, _⟩ := hA
  obtain ⟨B, cb, rfl, hcb, hmb, _⟩ := hB
  rw [List.length_map] at HT hca hcb ⊢
  obtain ⟨n, hn⟩ : ∃ n, n = P.length := ⟨_, rfl⟩
  have HN := Lib.hid hn
  rw [← hn] at HT hca hcb ⊢
  have hnm : n ≤ 9223372036854775807 := by unfold maxLen at hma; omega
  clear hn hma hmb hca hcb
  go_enter Try.func29, Try.ntmps29
  go_wp2_with fail
  go_loopw [5] (fun i wr => ∃ k : Nat, k ≤ n ∧ i = .int .i64 k ∧ Hid (Two w (.slice A n ca) (.slice B n cb) P wr)) (fun i _ => n - (intOf i).toNat)
  case atStart => exact ⟨0, Nat.zero_le _, rfl, HT⟩
  case round =>
    obtain ⟨k, hk, rfl, ho⟩ := hrel
    clear HT
    by_cases hlt : k < n
    · obtain ⟨p, _, hp⟩ := pl_at (P := P) (k := k) (by have := HN.out; omega)
      have HP := Lib.hid hp
      clear hp
      obtain ⟨b1, o1, rfl, hb1, _⟩ := five ho.out.a HP.out
      obtain ⟨b2, o2, rfl, hb2, _⟩ := five ho.out.b HP.out
      have huc := Two.ten ho HP.out
      clear ho
      go_wp2_with fail
      go_region_held3 (fun w' => w'.cell? ⟨b1, o1 + k * 5, none⟩ = some (.int .i64 p.a) ∧ w'.cell? ⟨b1, o1 + k * 5 + 1, none⟩ = some (.int .i64 p.h.s) ∧ w'.cell? ⟨b1, o1 + k * 5 + 2, none⟩ = some (.int .i64 p.h.o) ∧ w'.cell? ⟨b1, o1 + k * 5 + 3, none⟩ = some (.int .i64 p.h.l) ∧ w'.cell? ⟨b1, o1 + k * 5 + 4, none⟩ = some (.int .i64 p.h.r) ∧ w'.cell? ⟨b2, o2 + k * 5, none⟩ = some (.int .i64 p.a) ∧ w'.cell? ⟨b2, o2 + k * 5 + 1, none⟩ = some (.int .i64 p.h.s) ∧ w'.cell? ⟨b2, o2 + k * 5 + 2, none⟩ = some (.int .i64 p.h.o) ∧ w'.cell? ⟨b2, o2 + k * 5 + 3, none⟩ = some (.int .i64 p.h.l) ∧ w'.cell? ⟨b2, o2 + k * 5 + 4, none⟩ = some (.int .i64 p.h.r) ∧ Hid (Two w (.slice (some ⟨b1, o1, none⟩) n ca) (.slice (some ⟨b2, o2, none⟩) n cb) P w'))
        (first | exact huc | (go_split_ands; exact Two.ten (Two.step (by assumption) hb9) HP.out) | (go_split_ands; exact Two.ten (Two.step (by assumption) (below_drew _)) HP.out) | go_keep)
        ((go_at_call 51; refine (eqPlace_same _).mono ?_; rintro e w9 ⟨rfl, hb9⟩))
      go_wp2
      go_roundw
      case rel => exact ⟨k + 1, by omega, by go_num, by (go_split_ands; assumption)⟩
      case measure => simp [intOf]; omega
    · obtain rfl : k = n := by omega
      go_wp2
      go_ret
      exact ⟨rfl, ho.out.below⟩

set_option maxHeartbeats 1000000 in
theorem likePlaces_same (w : World) {la ha lb hb : Nat} {va vb : Value} {P : List Pl} (hA : RdR w la ha 5 va (P.map plC)) (hB : RdR w lb hb 5 vb (P.map plC)) :
    Calls Try.prog 26 #[va, vb] w (RetV w (.bool true)) := by
  have HT : Hid (Two w va vb P w) := Lib.hid ⟨rdR_all hA, rdR_all hB, Below.refl _ _⟩
  obtain ⟨A, ca, rfl, hca, hma, _⟩ := hA
  obtain ⟨B, cb, rfl, hcb, hmb, _⟩ := hB
  rw [List.length_map] at HT hca hcb ⊢
  obtain ⟨n, hn⟩ : ∃ n, n = P.length := ⟨_, rfl⟩
  have HN := Lib.hid hn
  rw [← hn] at HT hca hcb ⊢
  have hnm : n ≤ 9223372036854775807 := by unfold maxLen at hma; omega
  clear hn hma hmb hca hcb
  go_enter Try.func26, Try.ntmps26
  go_wp2_with fail
  go_loopw [5] (fun i wr => ∃ k : Nat, k ≤ n ∧ i = .int .i64 k ∧ Hid (Two w (.slice A n ca) (.slice B n cb) P wr)) (fun i _ => n - (intOf i).toNat)
  case atStart => exact ⟨0, Nat.zero_le _, rfl, HT⟩
  case round =>
    obtain ⟨k, hk, rfl, ho⟩ := hrel
    clear HT
    by_cases hlt : k < n
    · obtain ⟨p, _, hp⟩ := pl_at (P := P) (k := k) (by have := HN.out; omega)
      have HP := Lib.hid hp
      clear hp
      obtain ⟨b1, o1, rfl, hb1, _⟩ := five ho.out.a HP.out
      obtain ⟨b2, o2, rfl, hb2, _⟩ := five ho.out.b HP.out
      obtain ⟨x0, x1, x2, x3, x4, y0, y1, y2, y3, y4, _⟩ := Two.ten ho HP.out
      go_wp2_with fail
      go_quiet (fail)
      have HD := Lib.hid (fun q => Two.step ho (drawn (n := q) (Below.refl _ wr)))
      go_wp2
      go_roundw
      case rel => exact ⟨k + 1, by omega, by go_num, HD.out _⟩
      case measure => simp [intOf]; omega
    · obtain rfl : k = n := by omega
      go_wp2
      go_ret
      exact ⟨rfl, ho.out.below⟩

/-- The row of the numbers from s on. -/
def markR (s : Nat) : List Value := [.int .i64 ((s : Nat) : Int), .int .i64 ((s + 1 : Nat) : Int), .int .i64 ((s + 2 : Nat) : Int), .int .i64 ((s + 3 : Nat) : Int), .int .i64 ((s + 4 : Nat) : Int)]
def marksP (s n : Nat) : List (List Value) := (List.range n).map fun i => markR (s + i * 5)
theorem marksP_length (s n : Nat) : (marksP s n).length = n := by simp [marksP]
theorem marksP_get {s n i : Nat} (h : i < n) : (marksP s n)[i]? = some (markR (s + i * 5)) := by simp [marksP, h]
theorem marksP_succ (s n : Nat) : marksP s (n + 1) = marksP s n ++ [markR (s + n * 5)] := by simp [marksP, List.range_succ]

set_option maxHeartbeats 1000000 in
theorem markPlaceS (w : World) {lo hi : Nat} {v : Value} {P : List Pl} {s : Nat} (h : OwnR w lo hi 46 5 v (P.map plC)) (hP : P.length ≤ 1048576) (hs : s ≤ 1048576) :
    Calls Try.prog 30 #[v, .int .i64 s] w (fun e w' => e = .returned (.int .i64 ((s + P.length * 5 : Nat) : Int)) ∧ OwnR w' lo hi 46 5 v (marksP s P.length) ∧ OnlyIn lo hi w w') := by
  have ho := h
  obtain ⟨A, c, rfl, hc, hm, hzz⟩ := h.rd
  clear hzz
  rw [List.length_map] at ho hc ⊢
  obtain ⟨n, hn⟩ : ∃ n, n = P.length := ⟨_, rfl⟩
  have HN : Hid (n = P.length) := hn
  rw [← hn] at hP hc ho ⊢
  clear hn hm h
  go_enter Try.func30, Try.ntmps30
  go_wp2_with fail
  go_loopw [1, 5] (fun t i wr => ∃ k : Nat, k ≤ n ∧ i = .int .i64 k ∧ t = .int .i64 ((s + k * 5 : Nat) : Int) ∧ Hid (OwnR wr lo hi 46 5 (.slice A n c) (marksP s k ++ (P.map plC).drop k)) ∧ Hid (OnlyIn lo hi w wr))
    (fun _ i _ => n - (intOf i).toNat)
  case atStart => exact ⟨0, Nat.zero_le _, rfl, rfl, ho, OnlyIn.refl _ _ _⟩
  case round =>
    obtain ⟨k, hk, rfl, rfl, ho, hb⟩ := hrel
    by_cases hlt : k < n
    · obtain ⟨p, hpp, hp⟩ := pl_at (P := P) (k := k) (by have := HN.out; omega)
      have hr : (marksP s k ++ (P.map plC).drop k)[k]? = some (plC p) := by
        rw [List.getElem?_append_right (by rw [marksP_length]; omega), marksP_length, Nat.sub_self, List.getElem?_drop]
        exact hp
      obtain ⟨g, hA, g1, g2, g3, hput⟩ := ho.out.put hr
      subst hA
      obtain ⟨f0, ⟨u0, _, c0⟩, _⟩ := hput 0 (by omega)
      obtain ⟨f1, ⟨u1, _, c1⟩, _⟩ := hput 1 (by omega)
      obtain ⟨f2, ⟨u2, _, c2⟩, _⟩ := hput 2 (by omega)
      obtain ⟨f3, ⟨u3, _, c3⟩, _⟩ := hput 3 (by omega)
      obtain ⟨f4, ⟨u4, _, c4⟩, _⟩ := hput 4 (by omega)
      rw [Nat.add_zero] at f0 c0
      have HM := Lib.hid (OwnR.puts (markR (s + k * 5)) (j := 0) ho.out hr (by simp [markR]))
      have HE : Hid ((marksP s k ++ (P.map plC).drop k).set k ((plC p).take 0 ++ (markR (s + k * 5) ++ (plC p).drop (0 + (markR (s + k * 5)).length))) = marksP s (k + 1) ++ (P.map plC).drop (k + 1)) := Lib.hid (by
        have hkl : k < (P.map plC).length := (List.getElem?_eq_some_iff.1 hp).1
        rw [List.set_append_right _ _ (by rw [marksP_length]; omega), marksP_length, Nat.sub_self, List.drop_eq_getElem_cons hkl, List.set_cons_zero, marksP_succ, List.append_assoc]
        simp [markR, plC])
      rw [HE.out] at HM
      clear HE
      clear hput hr hp hpp
      have HO := Lib.hid ho
      clear ho
      go_wp2
      go_roundw
      case rel => exact ⟨k + 1, by omega, by go_num, by go_num, HM.out.1, hb.out.trans HM.out.2⟩
      case measure => simp [intOf]; omega
    · obtain rfl : k = n := by omega
      go_wp2
      go_ret
      refine ⟨rfl, ?_, hb.out⟩
      have := ho.out
      rw [List.drop_eq_nil_of_le (by rw [List.length_map]; have := HN.out; omega), List.append_nil] at this
      exact this

set_option maxHeartbeats 1000000 in
theorem heldPlaceS (w : World) {lo hi : Nat} {v : Value} {n s : Nat} (h : RdR w lo hi 5 v (marksP s n)) (hn : n ≤ 1048576) (hs : s ≤ 1048576) :
    Calls Try.prog 31 #[v, .int .i64 s] w (RetV w (.int .i64 ((s + n * 5 : Nat) : Int))) := by
  have HR := Lib.hid h
  obtain ⟨A, c, rfl, hc, hm, hzz⟩ := h
  clear hzz
  rw [marksP_length] at hc HR ⊢
  clear hm
  go_enter Try.func31, Try.ntmps31
  go_wp2_with fail
  go_loopw [1, 5] (fun t i wr => ∃ k : Nat, k ≤ n ∧ i = .int .i64 k ∧ t = .int .i64 ((s + k * 5 : Nat) : Int) ∧ Below w.heap.size w wr)
    (fun _ i _ => n - (intOf i).toNat)
  case atStart => exact ⟨0, Nat.zero_le _, rfl, rfl, Below.refl _ _⟩
  case round =>
    obtain ⟨k, hk, rfl, rfl, hb⟩ := hrel
    by_cases hlt : k < n
    · obtain ⟨b, o, hA, _, _, _, hcell⟩ := (HR.out.below hb).spot (marksP_get (s := s) hlt)
      subst hA
      have c0 := hcell 0 _ (by omega) rfl
      have c1 := hcell 1 _ (by omega) rfl
      have c2 := hcell 2 _ (by omega) rfl
      have c3 := hcell 3 _ (by omega) rfl
      have c4 := hcell 4 _ (by omega) rfl
      rw [Nat.add_zero] at c0
      clear hcell
      have e0 : ((s + k * 5 : Nat) : Int) = (s : Int) + (k : Int) * 5 := by omega
      have e1 : ((s + k * 5 + 1 : Nat) : Int) = (s : Int) + (k : Int) * 5 + 1 := by omega
      have e2 : ((s + k * 5 + 2 : Nat) : Int) = (s : Int) + (k : Int) * 5 + 1 + 1 := by omega
      have e3 : ((s + k * 5 + 3 : Nat) : Int) = (s : Int) + (k : Int) * 5 + 1 + 1 + 1 := by omega
      have e4 : ((s + k * 5 + 4 : Nat) : Int) = (s : Int) + (k : Int) * 5 + 1 + 1 + 1 + 1 := by omega
      rw [e0] at c0
      rw [e1] at c1
      rw [e2] at c2
      rw [e3] at c3
      rw [e4] at c4
      clear e0 e1 e2 e3 e4
      go_wp2
      go_roundw
      case rel => exact ⟨k + 1, by omega, by go_num, by go_num, hb⟩
      case measure => simp [intOf]; omega
    · obtain rfl : k = n := by omega
      go_wp2
      go_ret
      exact ⟨rfl, hb⟩
end Go.Proofs.Ytamgikcoknkghab.HelpP

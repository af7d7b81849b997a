/-
  The laws' own eqThing .. eqModel at two models that read alike: they say yes. No condition.
-/
import Derived.Test.YtmipkngikimjgaaModTo
import Derived.Deep.RegionHeld3
namespace Go.Proofs.Ytmipkngikimjgaa.Mods
open Go.RowKit Go.Proofs.Ytmipkngikimjgaa.Mem Go.Proofs.Ytmipkngikimjgaa.Pure Go.Proofs.Ytmipkngikimjgaa.Help Go.Proofs.Ytmipkngikimjgaa.Seq Go.Proofs.Ytmipkngikimjgaa.Ints Go.Proofs.Ytmipkngikimjgaa.Nest
set_option linter.unusedVariables false

theorem decide_self {α : Type} [DecidableEq α] (a : α) : decide (a = a) = true := by simp

set_option maxHeartbeats 1000000 in
theorem eqThing_same (w : World) {k : Th} {la ha lb hb : Nat} {x x' y y' : Value} (hx : RdR w la ha 1 x (intR k.f)) (hy : Rd w la ha y k.d) (hx' : RdR w lb hb 1 x' (intR k.f)) (hy' : Rd w lb hb y' k.d) :
    Calls Try.prog 81 #[.agg #[.bool k.u, .bool k.r, .int .i64 k.g, x, y], .agg #[.bool k.u, .bool k.r, .int .i64 k.g, x', y']] w (RetV w (.bool true)) := by
  have HX := Lib.hid (fun (w1 : World) (hb : Below w.heap.size w w1) => eqInt64S_same w1 (hx.below hb) (hx'.below hb))
  have HY := Lib.hid (fun (w1 : World) (hb : Below w.heap.size w w1) => by have := eqByteS w1 (hy.below hb) (hy'.below hb); rwa [decide_self] at this)
  obtain ⟨A, n, c, rfl⟩ := rdR_form hx
  obtain ⟨B, l, e, rfl⟩ := rd_form hy
  obtain ⟨A', n', c', rfl⟩ := rdR_form hx'
  obtain ⟨B', l', e', rfl⟩ := rd_form hy'
  obtain ⟨u, r, g, f, d⟩ := k
  dsimp only at HX HY ⊢
  clear hx hy hx' hy'
  have HB : Hid (Below w.heap.size w ((w.alloc (.cells #[.bool u, .bool r, .int .i64 g, .slice A n c, .slice B l e] 79)).alloc (.cells #[.bool u, .bool r, .int .i64 g, .slice A' n' c', .slice B' l' e'] 79))) := Lib.hid (((Below.refl _ _).alloc (Nat.le_refl _) _).alloc (by simp) _)
  have HA : Hid (Blk ((w.alloc (.cells #[.bool u, .bool r, .int .i64 g, .slice A n c, .slice B l e] 79)).alloc (.cells #[.bool u, .bool r, .int .i64 g, .slice A' n' c', .slice B' l' e'] 79)) w.heap.size #[.bool u, .bool r, .int .i64 g, .slice A n c, .slice B l e] 79) := Lib.hid ((Blk.new w _ _).more _)
  have HC : Hid (Blk ((w.alloc (.cells #[.bool u, .bool r, .int .i64 g, .slice A n c, .slice B l e] 79)).alloc (.cells #[.bool u, .bool r, .int .i64 g, .slice A' n' c', .slice B' l' e'] 79)) (w.heap.size + 1) #[.bool u, .bool r, .int .i64 g, .slice A' n' c', .slice B' l' e'] 79) := Lib.hid (by
    have := Blk.new (w.alloc (.cells #[.bool u, .bool r, .int .i64 g, .slice A n c, .slice B l e] 79)) #[.bool u, .bool r, .int .i64 g, .slice A' n' c', .slice B' l' e'] 79
    simpa using this)
  go_enter Try.func81, Try.ntmps81
  go_wp2_with fail
  refine (HX.out _ HB.out).mono ?_
  rintro e w1 ⟨rfl, hb1⟩
  have HB1 := Lib.hid (below_then HB.out hb1 (Nat.le_refl _))
  have c4 : w1.cell? ⟨w.heap.size, 4, none⟩ = some (.slice B l e) := (HA.out.below hb1).cell 4
  have d4 : w1.cell? ⟨w.heap.size + 1, 4, none⟩ = some (.slice B' l' e') := (HC.out.below hb1).cell 4
  clear hb1
  go_wp2_with fail
  refine (HY.out _ HB1.out).mono ?_
  rintro e w2 ⟨rfl, hb2⟩
  have HB2 := Lib.hid (below_then HB1.out hb2 (Nat.le_refl _))
  clear hb2
  go_wp2
  go_ret
  exact ⟨rfl, HB2.out⟩

set_option maxHeartbeats 1000000 in
theorem eqRoom_pre (w : World) {k : Rm} {x x' : Value} (HX : Hid (∀ w1 : World, Below w.heap.size w w1 → Calls Try.prog 78 #[x, x'] w1 (RetV w1 (.bool true)))) (hx : ∃ A n c, x = .slice A n c) (hx' : ∃ A n c, x' = .slice A n c) :
    Calls Try.prog 70 #[.agg #[.bool k.l, .int .i64 k.t, .int .i64 k.b, x], .agg #[.bool k.l, .int .i64 k.t, .int .i64 k.b, x']] w (RetV w (.bool true)) := by
  obtain ⟨A, n, c, rfl⟩ := hx
  obtain ⟨A', n', c', rfl⟩ := hx'
  obtain ⟨u, r, g, f⟩ := k
  dsimp only
  have HB : Hid (Below w.heap.size w ((w.alloc (.cells #[.bool u, .int .i64 r, .int .i64 g, .slice A n c] 76)).alloc (.cells #[.bool u, .int .i64 r, .int .i64 g, .slice A' n' c'] 76))) := Lib.hid (((Below.refl _ _).alloc (Nat.le_refl _) _).alloc (by simp) _)
  go_enter Try.func70, Try.ntmps70
  go_wp2_with fail
  refine (HX.out _ HB.out).mono ?_
  rintro e w1 ⟨rfl, hb1⟩
  have HB1 := Lib.hid (below_then HB.out hb1 (Nat.le_refl _))
  clear hb1
  go_wp2
  go_ret
  exact ⟨rfl, HB1.out⟩

set_option maxHeartbeats 1000000 in
theorem eqModel_pre (w : World) {s g : Int} {x x' : Value} (HX : Hid (∀ w1 : World, Below w.heap.size w w1 → Calls Try.prog 52 #[x, x'] w1 (RetV w1 (.bool true)))) (hx : ∃ A n c, x = .slice A n c) (hx' : ∃ A n c, x' = .slice A n c) :
    Calls Try.prog 24 #[.agg #[.int .i64 s, x, .int .i64 g], .agg #[.int .i64 s, x', .int .i64 g]] w (RetV w (.bool true)) := by
  obtain ⟨A, n, c, rfl⟩ := hx
  obtain ⟨A', n', c', rfl⟩ := hx'
  have HB : Hid (Below w.heap.size w ((w.alloc (.cells #[.int .i64 s, .slice A n c, .int .i64 g] 44)).alloc (.cells #[.int .i64 s, .slice A' n' c', .int .i64 g] 44))) := Lib.hid (((Below.refl _ _).alloc (Nat.le_refl _) _).alloc (by simp) _)
  have HA : Hid (Blk ((w.alloc (.cells #[.int .i64 s, .slice A n c, .int .i64 g] 44)).alloc (.cells #[.int .i64 s, .slice A' n' c', .int .i64 g] 44)) w.heap.size #[.int .i64 s, .slice A n c, .int .i64 g] 44) := Lib.hid ((Blk.new w _ _).more _)
  have HC : Hid (Blk ((w.alloc (.cells #[.int .i64 s, .slice A n c, .int .i64 g] 44)).alloc (.cells #[.int .i64 s, .slice A' n' c', .int .i64 g] 44)) (w.heap.size + 1) #[.int .i64 s, .slice A' n' c', .int .i64 g] 44) := Lib.hid (by
    have := Blk.new (w.alloc (.cells #[.int .i64 s, .slice A n c, .int .i64 g] 44)) #[.int .i64 s, .slice A' n' c', .int .i64 g] 44
    simpa using this)
  go_enter Try.func24, Try.ntmps24
  go_wp2_with fail
  refine (HX.out _ HB.out).mono ?_
  rintro e w1 ⟨rfl, hb1⟩
  have HB1 := Lib.hid (below_then HB.out hb1 (Nat.le_refl _))
  have c2 : w1.cell? ⟨w.heap.size, 2, none⟩ = some (.int .i64 g) := (HA.out.below hb1).cell 2
  have d2 : w1.cell? ⟨w.heap.size + 1, 2, none⟩ = some (.int .i64 g) := (HC.out.below hb1).cell 2
  clear hb1
  go_wp2
  go_ret
  exact ⟨rfl, HB1.out⟩

/-- .. and two of their things. -/
structure TwT (w0 : World) (va vb x y x' y' : Value) (K : List Th) (s : Th) (wr : World) : Prop where
  t : TwoG 5 thS w0 va vb K wr
  x : RdR wr 0 wr.heap.size 1 x (intR s.f)
  y : Rd wr 0 wr.heap.size y s.d
  x2 : RdR wr 0 wr.heap.size 1 x' (intR s.f)
  y2 : Rd wr 0 wr.heap.size y' s.d
theorem TwT.step {w0 wr w2 : World} {va vb x y x' y' : Value} {K : List Th} {s : Th} (h : Hid (TwT w0 va vb x y x' y' K s wr)) (hb : Below wr.heap.size wr w2) : Hid (TwT w0 va vb x y x' y' K s w2) :=
  Lib.hid ⟨(TwoG.step shTh (Lib.hid h.out.t) hb).out, Ints.rdR_all (h.out.x.below hb), rd_all (h.out.y.below hb), Ints.rdR_all (h.out.x2.below hb), rd_all (h.out.y2.below hb)⟩

theorem TwT.call {w0 wr : World} {va vb x y x' y' : Value} {K : List Th} {s : Th} (h : Hid (TwT w0 va vb x y x' y' K s wr)) :
    Calls Try.prog 81 #[.agg #[.bool s.u, .bool s.r, .int .i64 s.g, x, y], .agg #[.bool s.u, .bool s.r, .int .i64 s.g, x', y']] wr (RetV wr (.bool true)) :=
  eqThing_same wr (k := s) h.out.x h.out.y h.out.x2 h.out.y2

set_option maxHeartbeats 2000000 in
theorem eqThingS_same (w : World) {la ha lb hb : Nat} {va vb : Value} {K : List Th} (hA : RdG 5 thS w la ha va K) (hB : RdG 5 thS w lb hb vb K) :
    Calls Try.prog 78 #[va, vb] w (RetV w (.bool true)) := by
  have HT : Hid (TwoG 5 thS w va vb K w) := Lib.hid ⟨hA.all shTh, hB.all shTh, Below.refl _ _⟩
  obtain ⟨A, ca, rfl, hca, hma⟩ := hA.form
  obtain ⟨B, cb, rfl, hcb, hmb⟩ := hB.form
  clear hA hB
  obtain ⟨n, hn⟩ : ∃ n, n = K.length := ⟨_, rfl⟩
  have HN := Lib.hid hn
  rw [← hn] at HT hca hcb ⊢
  have hnm : n ≤ 9223372036854775807 := by unfold maxLen at hma; omega
  clear hn hma hmb hca hcb
  go_enter Try.func78, Try.ntmps78
  go_wp2_with fail
  go_loopw [5] (fun i wr => ∃ k : Nat, k ≤ n ∧ i = .int .i64 k ∧ Hid (TwoG 5 thS w (.slice A n ca) (.slice B n cb) K wr)) (fun i _ => n - (intOf i).toNat)
  case atStart => exact ⟨0, Nat.zero_le _, rfl, HT⟩
  case round =>
    obtain ⟨k, hk, rfl, ho⟩ := hrel
    clear HT
    by_cases hlt : k < n
    · obtain ⟨s, hs⟩ : ∃ s, K[k]? = some s := ⟨_, List.getElem?_eq_getElem (by have := HN.out; omega)⟩
      obtain ⟨b1, o1, vx, vy, rfl, hb1, x0, x1, x2, x3, x4, hx, hy⟩ := th_cells ho.out.a hs
      obtain ⟨b2, o2, vz, vw, rfl, hb2, y0, y1, y2, y3, y4, hz, hw⟩ := th_cells ho.out.b hs
      obtain ⟨Ax, nx, cx, rfl⟩ := rdR_form hx
      obtain ⟨Ay, ny, cy, rfl⟩ := rd_form hy
      obtain ⟨Az, nz, cz, rfl⟩ := rdR_form hz
      obtain ⟨Aw, nw, cw, rfl⟩ := rd_form hw
      have HW : Hid (TwT w (.slice (some ⟨b1, o1, none⟩) n ca) (.slice (some ⟨b2, o2, none⟩) n cb) (.slice Ax nx cx) (.slice Ay ny cy) (.slice Az nz cz) (.slice Aw nw cw) K s wr) := Lib.hid ⟨ho.out, hx, hy, hz, hw⟩
      have HCL : Hid (∀ w2 : World, Below wr.heap.size wr w2 → w2.cell? ⟨b1, o1 + k * 5, none⟩ = some (.bool s.u) ∧ w2.cell? ⟨b1, o1 + k * 5 + 1, none⟩ = some (.bool s.r) ∧ w2.cell? ⟨b1, o1 + k * 5 + 2, none⟩ = some (.int .i64 s.g) ∧ w2.cell? ⟨b1, o1 + k * 5 + 3, none⟩ = some (.slice Ax nx cx) ∧ w2.cell? ⟨b1, o1 + k * 5 + 4, none⟩ = some (.slice Ay ny cy) ∧ w2.cell? ⟨b2, o2 + k * 5, none⟩ = some (.bool s.u) ∧ w2.cell? ⟨b2, o2 + k * 5 + 1, none⟩ = some (.bool s.r) ∧ w2.cell? ⟨b2, o2 + k * 5 + 2, none⟩ = some (.int .i64 s.g) ∧ w2.cell? ⟨b2, o2 + k * 5 + 3, none⟩ = some (.slice Az nz cz) ∧ w2.cell? ⟨b2, o2 + k * 5 + 4, none⟩ = some (.slice Aw nw cw) ∧ Below wr.heap.size wr w2 ∧ Hid (TwT w (.slice (some ⟨b1, o1, none⟩) n ca) (.slice (some ⟨b2, o2, none⟩) n cb) (.slice Ax nx cx) (.slice Ay ny cy) (.slice Az nz cz) (.slice Aw nw cw) K s w2)) := Lib.hid (fun w2 hb =>
        ⟨(hb.cell hb1).trans x0, (hb.cell hb1).trans x1, (hb.cell hb1).trans x2, (hb.cell hb1).trans x3, (hb.cell hb1).trans x4, (hb.cell hb2).trans y0, (hb.cell hb2).trans y1, (hb.cell hb2).trans y2, (hb.cell hb2).trans y3, (hb.cell hb2).trans y4, hb, TwT.step HW hb⟩)
      have huc := HCL.out wr (Below.refl _ _)
      clear hs hx hy hz hw ho
      go_wp2_with fail
      go_region_held3 (fun w2 => w2.cell? ⟨b1, o1 + k * 5, none⟩ = some (.bool s.u) ∧ w2.cell? ⟨b1, o1 + k * 5 + 1, none⟩ = some (.bool s.r) ∧ w2.cell? ⟨b1, o1 + k * 5 + 2, none⟩ = some (.int .i64 s.g) ∧ w2.cell? ⟨b1, o1 + k * 5 + 3, none⟩ = some (.slice Ax nx cx) ∧ w2.cell? ⟨b1, o1 + k * 5 + 4, none⟩ = some (.slice Ay ny cy) ∧ w2.cell? ⟨b2, o2 + k * 5, none⟩ = some (.bool s.u) ∧ w2.cell? ⟨b2, o2 + k * 5 + 1, none⟩ = some (.bool s.r) ∧ w2.cell? ⟨b2, o2 + k * 5 + 2, none⟩ = some (.int .i64 s.g) ∧ w2.cell? ⟨b2, o2 + k * 5 + 3, none⟩ = some (.slice Az nz cz) ∧ w2.cell? ⟨b2, o2 + k * 5 + 4, none⟩ = some (.slice Aw nw cw) ∧ Below wr.heap.size wr w2 ∧ Hid (TwT w (.slice (some ⟨b1, o1, none⟩) n ca) (.slice (some ⟨b2, o2, none⟩) n cb) (.slice Ax nx cx) (.slice Ay ny cy) (.slice Az nz cz) (.slice Aw nw cw) K s w2))
        (first | exact huc | (go_split_ands; exact HCL.out _ (below_then (by assumption) hb9 (Nat.le_refl _))) | (go_split_ands; exact HCL.out _ (below_then (by assumption) (below_drew _) (Nat.le_refl _))) | go_keep)
        ((go_at_call 81; go_split_ands; refine (TwT.call (by assumption : Hid (TwT w (.slice (some ⟨b1, o1, none⟩) n ca) (.slice (some ⟨b2, o2, none⟩) n cb) (.slice Ax nx cx) (.slice Ay ny cy) (.slice Az nz cz) (.slice Aw nw cw) K s _))).mono ?_; rintro e w9 ⟨rfl, hb9⟩))
      have HWE : Hid (TwT w (.slice (some ⟨b1, o1, none⟩) n ca) (.slice (some ⟨b2, o2, none⟩) n cb) (.slice Ax nx cx) (.slice Ay ny cy) (.slice Az nz cz) (.slice Aw nw cw) K s w9) := by (go_split_ands; assumption)
      go_wp2
      go_roundw
      case rel => exact ⟨k + 1, by omega, by go_num, Lib.hid HWE.out.t⟩
      case measure => simp [intOf]; omega
    · obtain rfl : k = n := by omega
      go_wp2
      go_ret
      exact ⟨rfl, ho.out.below⟩

theorem eqRoom_same (w : World) {k : Rm} {la ha lb hb : Nat} {x x' : Value} (hx : RdG 5 thS w la ha x k.T) (hx' : RdG 5 thS w lb hb x' k.T) :
    Calls Try.prog 70 #[.agg #[.bool k.l, .int .i64 k.t, .int .i64 k.b, x], .agg #[.bool k.l, .int .i64 k.t, .int .i64 k.b, x']] w (RetV w (.bool true)) :=
  eqRoom_pre w (Lib.hid (fun w1 hb => eqThingS_same w1 (hx.below shTh hb) (hx'.below shTh hb))) (rdG_form hx) (rdG_form hx')

/-- .. and two of their rooms. -/
structure TwM (w0 : World) (va vb x x' : Value) (K : List Rm) (s : Rm) (wr : World) : Prop where
  t : TwoG 4 rmS w0 va vb K wr
  x : RdG 5 thS wr 0 wr.heap.size x s.T
  x2 : RdG 5 thS wr 0 wr.heap.size x' s.T
theorem TwM.step {w0 wr w2 : World} {va vb x x' : Value} {K : List Rm} {s : Rm} (h : Hid (TwM w0 va vb x x' K s wr)) (hb : Below wr.heap.size wr w2) : Hid (TwM w0 va vb x x' K s w2) :=
  Lib.hid ⟨(TwoG.step shRm (Lib.hid h.out.t) hb).out, (h.out.x.below shTh hb).all shTh, (h.out.x2.below shTh hb).all shTh⟩

theorem TwM.call {w0 wr : World} {va vb x x' : Value} {K : List Rm} {s : Rm} (h : Hid (TwM w0 va vb x x' K s wr)) :
    Calls Try.prog 70 #[.agg #[.bool s.l, .int .i64 s.t, .int .i64 s.b, x], .agg #[.bool s.l, .int .i64 s.t, .int .i64 s.b, x']] wr (RetV wr (.bool true)) :=
  eqRoom_same wr (k := s) h.out.x h.out.x2

set_option maxHeartbeats 2000000 in
theorem eqRoomS_same (w : World) {la ha lb hb : Nat} {va vb : Value} {K : List Rm} (hA : RdG 4 rmS w la ha va K) (hB : RdG 4 rmS w lb hb vb K) :
    Calls Try.prog 52 #[va, vb] w (RetV w (.bool true)) := by
  have HT : Hid (TwoG 4 rmS w va vb K w) := Lib.hid ⟨hA.all shRm, hB.all shRm, Below.refl _ _⟩
  obtain ⟨A, ca, rfl, hca, hma⟩ := hA.form
  obtain ⟨B, cb, rfl, hcb, hmb⟩ := hB.form
  clear hA hB
  obtain ⟨n, hn⟩ : ∃ n, n = K.length := ⟨_, rfl⟩
  have HN := Lib.hid hn
  rw [← hn] at HT hca hcb ⊢
  have hnm : n ≤ 9223372036854775807 := by unfold maxLen at hma; omega
  clear hn hma hmb hca hcb
  go_enter Try.func52, Try.ntmps52
  go_wp2_with fail
  go_loopw [5] (fun i wr => ∃ k : Nat, k ≤ n ∧ i = .int .i64 k ∧ Hid (TwoG 4 rmS w (.slice A n ca) (.slice B n cb) K wr)) (fun i _ => n - (intOf i).toNat)
  case atStart => exact ⟨0, Nat.zero_le _, rfl, HT⟩
  case round =>
    obtain ⟨k, hk, rfl, ho⟩ := hrel
    clear HT
    by_cases hlt : k < n
    · obtain ⟨s, hs⟩ : ∃ s, K[k]? = some s := ⟨_, List.getElem?_eq_getElem (by have := HN.out; omega)⟩
      obtain ⟨b1, o1, vx, rfl, hb1, x0, x1, x2, x3, hx⟩ := rm_cells ho.out.a hs
      obtain ⟨b2, o2, vz, rfl, hb2, y0, y1, y2, y3, hz⟩ := rm_cells ho.out.b hs
      obtain ⟨Ax, nx, cx, rfl⟩ := rdG_form hx
      obtain ⟨Az, nz, cz, rfl⟩ := rdG_form hz
      have HW : Hid (TwM w (.slice (some ⟨b1, o1, none⟩) n ca) (.slice (some ⟨b2, o2, none⟩) n cb) (.slice Ax nx cx) (.slice Az nz cz) K s wr) := Lib.hid ⟨ho.out, hx, hz⟩
      have HCL : Hid (∀ w2 : World, Below wr.heap.size wr w2 → w2.cell? ⟨b1, o1 + k * 4, none⟩ = some (.bool s.l) ∧ w2.cell? ⟨b1, o1 + k * 4 + 1, none⟩ = some (.int .i64 s.t) ∧ w2.cell? ⟨b1, o1 + k * 4 + 2, none⟩ = some (.int .i64 s.b) ∧ w2.cell? ⟨b1, o1 + k * 4 + 3, none⟩ = some (.slice Ax nx cx) ∧ w2.cell? ⟨b2, o2 + k * 4, none⟩ = some (.bool s.l) ∧ w2.cell? ⟨b2, o2 + k * 4 + 1, none⟩ = some (.int .i64 s.t) ∧ w2.cell? ⟨b2, o2 + k * 4 + 2, none⟩ = some (.int .i64 s.b) ∧ w2.cell? ⟨b2, o2 + k * 4 + 3, none⟩ = some (.slice Az nz cz) ∧ Below wr.heap.size wr w2 ∧ Hid (TwM w (.slice (some ⟨b1, o1, none⟩) n ca) (.slice (some ⟨b2, o2, none⟩) n cb) (.slice Ax nx cx) (.slice Az nz cz) K s w2)) := Lib.hid (fun w2 hb =>
        ⟨(hb.cell hb1).trans x0, (hb.cell hb1).trans x1, (hb.cell hb1).trans x2, (hb.cell hb1).trans x3, (hb.cell hb2).trans y0, (hb.cell hb2).trans y1, (hb.cell hb2).trans y2, (hb.cell hb2).trans y3, hb, TwM.step HW hb⟩)
      have huc := HCL.out wr (Below.refl _ _)
      clear hs hx hz ho
      go_wp2_with fail
      go_region_held3 (fun w2 => w2.cell? ⟨b1, o1 + k * 4, none⟩ = some (.bool s.l) ∧ w2.cell? ⟨b1, o1 + k * 4 + 1, none⟩ = some (.int .i64 s.t) ∧ w2.cell? ⟨b1, o1 + k * 4 + 2, none⟩ = some (.int .i64 s.b) ∧ w2.cell? ⟨b1, o1 + k * 4 + 3, none⟩ = some (.slice Ax nx cx) ∧ w2.cell? ⟨b2, o2 + k * 4, none⟩ = some (.bool s.l) ∧ w2.cell? ⟨b2, o2 + k * 4 + 1, none⟩ = some (.int .i64 s.t) ∧ w2.cell? ⟨b2, o2 + k * 4 + 2, none⟩ = some (.int .i64 s.b) ∧ w2.cell? ⟨b2, o2 + k * 4 + 3, none⟩ = some (.slice Az nz cz) ∧ Below wr.heap.size wr w2 ∧ Hid (TwM w (.slice (some ⟨b1, o1, none⟩) n ca) (.slice (some ⟨b2, o2, none⟩) n cb) (.slice Ax nx cx) (.slice Az nz cz) K s w2))
        (first | exact huc | (go_split_ands; exact HCL.out _ (below_then (by assumption) hb9 (Nat.le_refl _))) | (go_split_ands; exact HCL.out _ (below_then (by assumption) (below_drew _) (Nat.le_refl _))) | go_keep)
        ((go_at_call 70; go_split_ands; refine (TwM.call (by assumption : Hid (TwM w (.slice (some ⟨b1, o1, none⟩) n ca) (.slice (some ⟨b2, o2, none⟩) n cb) (.slice Ax nx cx) (.slice Az nz cz) K s _))).mono ?_; rintro e w9 ⟨rfl, hb9⟩))
      have HWE : Hid (TwM w (.slice (some ⟨b1, o1, none⟩) n ca) (.slice (some ⟨b2, o2, none⟩) n cb) (.slice Ax nx cx) (.slice Az nz cz) K s w9) := by (go_split_ands; assumption)
      go_wp2
      go_roundw
      case rel => exact ⟨k + 1, by omega, by go_num, Lib.hid HWE.out.t⟩
      case measure => simp [intOf]; omega
    · obtain rfl : k = n := by omega
      go_wp2
      go_ret
      exact ⟨rfl, ho.out.below⟩

theorem eqModel_same (w : World) {la ha lb hb : Nat} {va vb : Value} {M : Md} (hA : RdM w la ha va M) (hB : RdM w lb hb vb M) :
    Calls Try.prog 24 #[va, vb] w (RetV w (.bool true)) := by
  obtain ⟨x, rfl, hx⟩ := hA
  obtain ⟨x', rfl, hx'⟩ := hB
  exact eqModel_pre w (Lib.hid (fun w1 hb => eqRoomS_same w1 (hx.below shRm hb) (hx'.below shRm hb))) (rdG_form hx) (rdG_form hx')
end Go.Proofs.Ytmipkngikimjgaa.Mods

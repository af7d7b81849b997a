/-
  toThing, toThingS, toRoom, toRoomS, toModel: they copy what they are given. At most 1048576 in all.
-/
import Derived.Test.YtmipkngikimjgaaMods
namespace Go.Proofs.Ytmipkngikimjgaa.Mods
open Go.RowKit Go.Proofs.Ytmipkngikimjgaa.Mem Go.Proofs.Ytmipkngikimjgaa.Pure Go.Proofs.Ytmipkngikimjgaa.Help Go.Proofs.Ytmipkngikimjgaa.Seq Go.Proofs.Ytmipkngikimjgaa.Ints Go.Proofs.Ytmipkngikimjgaa.Nest
set_option linter.unusedVariables false

theorem only_in {lo hi g : Nat} (w : World) (k : Nat) (x : Value) (h : lo ≤ g ∧ g < hi) : OnlyIn lo hi w (w.setCell ⟨g, k, none⟩ x) :=
  ⟨rfl, rfl, rfl, by simp, fun i hi hn => Below.heap_setCell w _ _ i (by show i ≠ g; omega)⟩
theorem blk_set {w : World} {g : Nat} {cs : Array Value} {t : TypeId} (h : Blk w g cs t) (k : Nat) (x : Value) : Blk (w.setCell ⟨g, k, none⟩ x) g (cs.setIfInBounds k x) t := by
  unfold Blk at *
  simp [World.setCell, Array.getElem?_modify, h]
theorem blk_other {w : World} {g q : Nat} {cs : Array Value} {t : TypeId} (h : Blk w g cs t) (k : Nat) (x : Value) (hq : g ≠ q) : Blk (w.setCell ⟨q, k, none⟩ x) g cs t := by
  unfold Blk at *
  rw [← h]
  exact Below.heap_setCell w _ _ g hq

theorem own_form {w : World} {lo hi : Nat} {v : Value} {L : List Int} (h : Own w lo hi v L) : ∃ A n c, v = .slice A n c := by
  obtain ⟨A, c, hv, _⟩ := h.rd
  exact ⟨A, _, c, hv⟩

theorem rdR_form {w : World} {lo hi sz : Nat} {v : Value} {R : List (List Value)} (h : RdR w lo hi sz v R) : ∃ A n c, v = .slice A n c := by
  obtain ⟨A, c, hv, _⟩ := h
  exact ⟨A, _, c, hv⟩
theorem rd_form {w : World} {lo hi : Nat} {v : Value} {L : List Int} (h : Rd w lo hi v L) : ∃ A n c, v = .slice A n c := by
  obtain ⟨A, c, hv, _⟩ := h
  exact ⟨A, _, c, hv⟩
theorem setRow5 (w : World) (g o : Nat) (a b c d e : Value) : setRowAt w g o [a, b, c, d, e] = ((((w.setCell ⟨g, o, none⟩ a).setCell ⟨g, o + 1, none⟩ b).setCell ⟨g, o + 2, none⟩ c).setCell ⟨g, o + 3, none⟩ d).setCell ⟨g, o + 4, none⟩ e := rfl
theorem setRow4 (w : World) (g o : Nat) (a b c d : Value) : setRowAt w g o [a, b, c, d] = (((w.setCell ⟨g, o, none⟩ a).setCell ⟨g, o + 1, none⟩ b).setCell ⟨g, o + 2, none⟩ c).setCell ⟨g, o + 3, none⟩ d := rfl

theorem infoTh : (Try.prog.info? 79).map (fun i => (i.zero, i.size, i.bytes)) = some (some (.agg #[.bool false, .bool false, .int .i64 0, .slice none 0 0, .slice none 0 0]), 5, 64) := by kernel_rfl

theorem infoRm : (Try.prog.info? 76).map (fun i => (i.zero, i.size, i.bytes)) = some (some (.agg #[.bool false, .int .i64 0, .int .i64 0, .slice none 0 0]), 4, 48) := by kernel_rfl

set_option maxHeartbeats 1000000 in
theorem toThing (w : World) {lo hi : Nat} {k : Th} {x y : Value} (hx : RdR w lo hi 1 x (intR k.f)) (hy : Rd w lo hi y k.d) (hf : k.f.length ≤ 1048576) (hd : k.d.length ≤ 1048576) :
    Calls Try.prog 80 #[.agg #[.bool k.u, .bool k.r, .int .i64 k.g, x, y]] w (fun e w' => ∃ x' y', e = .returned (.agg #[.bool k.u, .bool k.r, .int .i64 k.g, x', y']) ∧ RdR w' w.heap.size w'.heap.size 1 x' (intR k.f) ∧ Rd w' w.heap.size w'.heap.size y' k.d ∧ Below w.heap.size w w') := by
  obtain ⟨u, r, g, f, d⟩ := k
  dsimp only at hx hy hf hd ⊢
  have HX := Lib.hid (fun (w1 : World) (hb : Below w.heap.size w w1) => toInt64S w1 (hx.below hb) hf)
  have HY := Lib.hid (fun (w1 : World) (hb : Below w.heap.size w w1) => toByteS w1 (hy.below hb) hd)
  obtain ⟨A, c, rfl, hc, hm, hzz⟩ := hx
  clear hzz hc hm
  obtain ⟨B, e, rfl, hc, hm, hzz⟩ := hy
  clear hzz hc hm hf hd
  rw [intR_length] at HX ⊢
  obtain ⟨n, hn⟩ : ∃ n, n = f.length := ⟨_, rfl⟩
  rw [← hn] at HX ⊢
  clear hn
  obtain ⟨m, hn⟩ : ∃ n, n = d.length := ⟨_, rfl⟩
  rw [← hn] at HY ⊢
  clear hn
  obtain ⟨w1, hw1⟩ : ∃ w1, w1 = ((w.alloc (.cells #[.bool u, .bool r, .int .i64 g, .slice A n c, .slice B m e] 118)).alloc (.cells #[.bool false, .bool false, .int .i64 0, .slice none 0 0, .slice none 0 0] 79)).alloc (.cells #[.bool u, .bool r, .int .i64 g, .slice none 0 0, .slice none 0 0] 79) := ⟨_, rfl⟩
  have HW1 := Lib.hid hw1
  have HB1 : Hid (Below w.heap.size w w1) := Lib.hid (by rw [hw1]; exact (((Below.refl _ _).alloc (Nat.le_refl _) _).alloc (by simp) _).alloc (by simp; omega) _)
  have HS1 : Hid (w1.heap.size = w.heap.size + 3) := Lib.hid (by rw [hw1]; simp)
  have HA1 : Hid (Blk w1 w.heap.size #[.bool u, .bool r, .int .i64 g, .slice A n c, .slice B m e] 118) := Lib.hid (by
    rw [hw1]
    exact ((Blk.new w #[.bool u, .bool r, .int .i64 g, .slice A n c, .slice B m e] 118).more _).more _)
  have HK1 : Hid (Blk w1 (w.heap.size + 1) #[.bool false, .bool false, .int .i64 0, .slice none 0 0, .slice none 0 0] 79) := Lib.hid (by
    rw [hw1]
    have := (Blk.new (w.alloc (.cells #[.bool u, .bool r, .int .i64 g, .slice A n c, .slice B m e] 118)) #[.bool false, .bool false, .int .i64 0, .slice none 0 0, .slice none 0 0] 79).more (.cells #[.bool u, .bool r, .int .i64 g, .slice none 0 0, .slice none 0 0] 79)
    simpa using this)
  have HO1 : Hid (Blk w1 (w.heap.size + 1 + 1) #[.bool u, .bool r, .int .i64 g, .slice none 0 0, .slice none 0 0] 79) := Lib.hid (by
    rw [hw1]
    have := Blk.new ((w.alloc (.cells #[.bool u, .bool r, .int .i64 g, .slice A n c, .slice B m e] 118)).alloc (.cells #[.bool false, .bool false, .int .i64 0, .slice none 0 0, .slice none 0 0] 79)) #[.bool u, .bool r, .int .i64 g, .slice none 0 0, .slice none 0 0] 79
    simpa using this)
  clear hw1
  go_enter Try.func80, Try.ntmps80
  go_wp2_with fail
  rw [← HW1.out]
  refine (HX.out w1 HB1.out).mono ?_
  rintro e2 w2 ⟨x2, rfl, ho2, hb2⟩
  obtain ⟨Ay, ny, cy, rfl⟩ := ho2.form
  have HR2 := Lib.hid ho2.rd
  have HB2 := Lib.hid hb2
  have HA2 := Lib.hid (HA1.out.below hb2)
  have HK2 := Lib.hid (HK1.out.below hb2)
  have HO2 := Lib.hid (HO1.out.below hb2)
  obtain ⟨⟨a0, a1, a2, a3, a4⟩, z0, z1, z2, z3, z4⟩ := blk5 HA2.out
  obtain ⟨⟨d0, d1, d2, d3, d4⟩, e0, e1, e2, e3, e4⟩ := blk5 HO2.out
  clear ho2 hb2 z0 z1 z2 z3 z4
  go_wp2_with fail
  have HT3 := Lib.hid (only_in (lo := w.heap.size) (hi := w1.heap.size) (g := w.heap.size + 1 + 1) w2 3 (.slice Ay ny cy) (by have := HS1.out; omega))
  have HBB := Lib.hid (below_touch (below_then HB1.out HB2.out (Nat.le_refl _)) HT3.out (Nat.le_refl _) (Nat.le_refl _))
  refine (HY.out _ HBB.out).mono ?_
  rintro e5 w3 ⟨y3, rfl, ho3, hb3⟩
  obtain ⟨Az, nz, cz, rfl⟩ := own_form ho3
  have HY3 := Lib.hid ho3.rd
  have HS3 := Lib.hid hb3.size
  have HX3 := Lib.hid ((HR2.out.touch HT3.out (.inr (Nat.le_refl _))).below hb3)
  have HB3 := Lib.hid (below_then HBB.out hb3 (Nat.le_refl _))
  have HK3 := Lib.hid ((blk_other HK2.out 3 (.slice Ay ny cy) (q := w.heap.size + 1 + 1) (by omega)).below hb3)
  have HO3 := Lib.hid ((blk_set HO2.out 3 (.slice Ay ny cy)).below hb3)
  clear a0 a1 a2 a3 a4 d0 d1 d2 d3 d4 e0 e1 e2 e3 e4 ho3 hb3
  obtain ⟨⟨a0, a1, a2, a3, a4⟩, z0, z1, z2, z3, z4⟩ := blk5 HK3.out
  obtain ⟨⟨d0, d1, d2, d3, d4⟩, e0, e1, e2, e3, e4⟩ := blk5 HO3.out
  go_wp2
  refine bodyPost_ret (v := .agg #[.bool u, .bool r, .int .i64 g, .slice Ay ny cy, .slice Az nz cz]) (by simp [results, Try.results80, go_sem, a0, a1, a2, a3, a4]) rfl ?_
  have hq : Hid (w.heap.size ≤ w.heap.size + 1 ∧ w.heap.size + 1 < w1.heap.size) := Lib.hid (by have := HS1.out; omega)
  have ht := (((((only_in (lo := w.heap.size) (hi := w1.heap.size) (g := w.heap.size + 1 + 1) w3 4 (.slice Az nz cz) (by have := HS1.out; omega)).trans (only_in (g := w.heap.size + 1) _ 0 (.bool u) hq.out)).trans (only_in (g := w.heap.size + 1) _ 1 (.bool r) hq.out)).trans (only_in (g := w.heap.size + 1) _ 2 (.int .i64 g) hq.out)).trans (only_in (g := w.heap.size + 1) _ 3 (.slice Ay ny cy) hq.out)).trans (only_in (g := w.heap.size + 1) _ 4 (.slice Az nz cz) hq.out)
  refine ⟨_, _, rfl, (HX3.out.touch ht (.inr (Nat.le_refl _))).more HB1.out.size ?_, (HY3.out.touch ht (.inr ?_)).more HBB.out.size ht.size, below_touch HB3.out ht (Nat.le_refl _) (Nat.le_refl _)⟩
  · exact Nat.le_trans (Nat.le_trans HT3.out.size HS3.out) ht.size
  · exact Nat.le_trans HB2.out.size HT3.out.size

set_option maxHeartbeats 1000000 in
theorem toThingS (w : World) {lo hi : Nat} {v : Value} {K : List Th} (h : RdG 5 thS w lo hi v K) (hK : K.length ≤ 1048576) (hF : ∀ k ∈ K, thC k ≤ 1048576) :
    Calls Try.prog 77 #[v] w (RetG 5 thS w K) := by
  obtain ⟨i0, hi0, hz0, hz1, hz2⟩ := info_parts infoTh
  have HR := Lib.hid h
  have HF := Lib.hid hF
  obtain ⟨A, c, rfl, hc, hm⟩ := h.form
  clear h hc hm hF
  obtain ⟨n, hn⟩ : ∃ n, n = K.length := ⟨_, rfl⟩
  have HN := Lib.hid hn
  rw [← hn] at HR hK ⊢
  clear hn
  go_enter Try.func77, Try.ntmps77
  go_wp2_with (at_make; refine wpList_make_full _ rfl _ _ 74 rfl w.heap.size 79 i0 (.agg #[.bool false, .bool false, .int .i64 0, .slice none 0 0, .slice none 0 0]) 5 Try.underlying74 hi0 hz0 hz1 .i64 .i64 _ _ n rfl rfl rfl rfl ?_ ?_ ?_ ?_)
  · rw [hz2]; omega
  · unfold maxLen; omega
  · exact Nat.le_refl _
  · intro w1 hown hg
    have hb1 : Below w.heap.size w w1 := (Below.refl _ _).grown hg (Nat.le_refl _) (fun k hk => by cases hk)
    have ho1 : Fill 79 5 thS w.heap.size n K 0 w1 ∧ w.heap.size < w1.heap.size := by
      have hrow := ownR_of_make (w := w) (sz := 5) (v := .slice (some ⟨w.heap.size, 0, none⟩) n n) (z := #[.bool false, .bool false, .int .i64 0, .slice none 0 0, .slice none 0 0]) rfl (by omega) hown
      exact ⟨fill_new hrow, (hrow.blk (g := w.heap.size) rfl).2.1⟩
    have HO1 := Lib.hid ho1.1
    have HG1 := Lib.hid ho1.2
    have HB1 := Lib.hid hb1
    clear hown hg ho1 hb1 hi0 hz0 hz1 hz2
    go_wp2_with fail
    go_loopw [4] (fun i wr => ∃ k : Nat, k ≤ n ∧ i = .int .i64 k ∧ Hid (Fill 79 5 thS w.heap.size n K k wr) ∧ Hid (Below w.heap.size w wr) ∧ Hid (w.heap.size < wr.heap.size))
      (fun i _ => n - (intOf i).toNat)
    case atStart => exact ⟨0, Nat.zero_le _, rfl, HO1, HB1, HG1⟩
    case round =>
      obtain ⟨k, hk, rfl, ho, hb, hg⟩ := hrel
      by_cases hlt : k < n
      · obtain ⟨s, hs⟩ : ∃ s, K[k]? = some s := ⟨_, List.getElem?_eq_getElem (by have := HN.out; omega)⟩
        have HS := Lib.hid hs
        have HSF := Lib.hid (HF.out s (List.mem_of_getElem? hs))
        obtain ⟨b, o, x, y, rfl, hb1, c0, c1, c2, c3, c4, hx, hy⟩ := th_cells (HR.out.below shTh hb.out) hs
        have HX := Lib.hid hx
        have HY := Lib.hid hy
        clear hs hx hy
        go_wp2_with fail
        refine (toThing _ (k := s) HX.out HY.out (by have := HSF.out; unfold thC at this; omega) (by have := HSF.out; unfold thC at this; omega)).mono ?_
        rintro e w2 ⟨x2, y2, rfl, hx2, hy2, hb2⟩
        obtain ⟨Ax, nx, cx, rfl⟩ := rdR_form hx2
        obtain ⟨Ay, ny, cy, rfl⟩ := rd_form hy2
        have HO2 := Lib.hid (ho.out.below shTh hb2)
        have HB2 := Lib.hid (below_then hb.out hb2 (Nat.le_refl _))
        have HG2 := Lib.hid (Nat.lt_of_lt_of_le hg.out hb2.size)
        have HPUT := Lib.hid (Fill.put shTh (k := s) HO2.out HS.out HN.out HG2.out (shTh.more ⟨_, _, rfl, hx2, hy2⟩ hg.out (Nat.le_refl _)))
        rw [setRow5] at HPUT
        clear hb2 ho hx2 hy2
        obtain ⟨f0, u0, d0⟩ := HO2.out.cells hlt 0 (by omega)
        obtain ⟨f1, u1, d1⟩ := HO2.out.cells hlt 1 (by omega)
        obtain ⟨f2, u2, d2⟩ := HO2.out.cells hlt 2 (by omega)
        obtain ⟨f3, u3, d3⟩ := HO2.out.cells hlt 3 (by omega)
        obtain ⟨f4, u4, d4⟩ := HO2.out.cells hlt 4 (by omega)
        rw [Nat.add_zero] at f0 d0
        go_wp2
        go_roundw
        case rel => exact ⟨k + 1, by omega, by go_num, Lib.hid HPUT.out.1, Lib.hid (below_touch HB2.out HPUT.out.2 (Nat.le_refl _) (Nat.le_refl _)), Lib.hid (Nat.lt_of_lt_of_le HG2.out HPUT.out.2.size)⟩
        case measure => simp [intOf]; omega
      · obtain rfl : k = n := by omega
        go_wp2
        go_ret
        exact ⟨_, rfl, ho.out.done shTh HN.out rfl hg.out, hb.out⟩

theorem blk4 {w : World} {g : Nat} {a b c d : Value} {t : TypeId} (h : Blk w g #[a, b, c, d] t) :
    (w.cell? ⟨g, 0, none⟩ = some a ∧ w.cell? ⟨g, 1, none⟩ = some b ∧ w.cell? ⟨g, 2, none⟩ = some c ∧ w.cell? ⟨g, 3, none⟩ = some d) ∧ w.frozen? ⟨g, 0, none⟩ = false ∧ w.frozen? ⟨g, 1, none⟩ = false ∧ w.frozen? ⟨g, 2, none⟩ = false ∧ w.frozen? ⟨g, 3, none⟩ = false :=
  ⟨⟨h.cell 0, h.cell 1, h.cell 2, h.cell 3⟩, h.free 0, h.free 1, h.free 2, h.free 3⟩
theorem blk3 {w : World} {g : Nat} {a b c : Value} {t : TypeId} (h : Blk w g #[a, b, c] t) :
    (w.cell? ⟨g, 0, none⟩ = some a ∧ w.cell? ⟨g, 1, none⟩ = some b ∧ w.cell? ⟨g, 2, none⟩ = some c) ∧ w.frozen? ⟨g, 0, none⟩ = false ∧ w.frozen? ⟨g, 1, none⟩ = false ∧ w.frozen? ⟨g, 2, none⟩ = false :=
  ⟨⟨h.cell 0, h.cell 1, h.cell 2⟩, h.free 0, h.free 1, h.free 2⟩
theorem rdG_form {α : Type} {sz : Nat} {S : World → Nat → Nat → α → List Value → Prop} {w : World} {lo hi : Nat} {v : Value} {K : List α} (h : RdG sz S w lo hi v K) : ∃ A n c, v = .slice A n c := by
  obtain ⟨A, c, hv, _⟩ := h.form
  exact ⟨A, _, c, hv⟩

set_option maxHeartbeats 1000000 in
theorem toRoom (w : World) {lo hi : Nat} {k : Rm} {x : Value} (hx : RdG 5 thS w lo hi x k.T) (hf : k.T.length ≤ 1048576) (hd : ∀ z ∈ k.T, thC z ≤ 1048576) :
    Calls Try.prog 68 #[.agg #[.bool k.l, .int .i64 k.t, .int .i64 k.b, x]] w (fun e w' => ∃ x', e = .returned (.agg #[.bool k.l, .int .i64 k.t, .int .i64 k.b, x']) ∧ RdG 5 thS w' w.heap.size w'.heap.size x' k.T ∧ Below w.heap.size w w') := by
  obtain ⟨u, r, g, T⟩ := k
  dsimp only at hx hf hd ⊢
  have HX := Lib.hid (fun (w1 : World) (hb : Below w.heap.size w w1) => toThingS w1 (hx.below shTh hb) hf hd)
  obtain ⟨A, n, c, rfl⟩ := rdG_form hx
  clear hx hf hd
  obtain ⟨w1, hw1⟩ : ∃ w1, w1 = ((w.alloc (.cells #[.bool u, .int .i64 r, .int .i64 g, .slice A n c] 107)).alloc (.cells #[.bool false, .int .i64 0, .int .i64 0, .slice none 0 0] 76)).alloc (.cells #[.bool u, .int .i64 r, .int .i64 g, .slice none 0 0] 76) := ⟨_, rfl⟩
  have HW1 := Lib.hid hw1
  have HB1 : Hid (Below w.heap.size w w1) := Lib.hid (by rw [hw1]; exact (((Below.refl _ _).alloc (Nat.le_refl _) _).alloc (by simp) _).alloc (by simp; omega) _)
  have HS1 : Hid (w1.heap.size = w.heap.size + 3) := Lib.hid (by rw [hw1]; simp)
  have HK1 : Hid (Blk w1 (w.heap.size + 1) #[.bool false, .int .i64 0, .int .i64 0, .slice none 0 0] 76) := Lib.hid (by
    rw [hw1]
    have := (Blk.new (w.alloc (.cells #[.bool u, .int .i64 r, .int .i64 g, .slice A n c] 107)) #[.bool false, .int .i64 0, .int .i64 0, .slice none 0 0] 76).more (.cells #[.bool u, .int .i64 r, .int .i64 g, .slice none 0 0] 76)
    simpa using this)
  have HO1 : Hid (Blk w1 (w.heap.size + 1 + 1) #[.bool u, .int .i64 r, .int .i64 g, .slice none 0 0] 76) := Lib.hid (by
    rw [hw1]
    have := Blk.new ((w.alloc (.cells #[.bool u, .int .i64 r, .int .i64 g, .slice A n c] 107)).alloc (.cells #[.bool false, .int .i64 0, .int .i64 0, .slice none 0 0] 76)) #[.bool u, .int .i64 r, .int .i64 g, .slice none 0 0] 76
    simpa using this)
  clear hw1
  go_enter Try.func68, Try.ntmps68
  go_wp2_with fail
  rw [← HW1.out]
  refine (HX.out w1 HB1.out).mono ?_
  rintro e2 w2 ⟨x2, rfl, ho2, hb2⟩
  obtain ⟨Ay, ny, cy, rfl⟩ := rdG_form ho2
  have HR2 := Lib.hid ho2
  have HB2 := Lib.hid hb2
  have HK2 := Lib.hid (HK1.out.below hb2)
  have HO2 := Lib.hid (HO1.out.below hb2)
  obtain ⟨⟨a0, a1, a2, a3⟩, z0, z1, z2, z3⟩ := blk4 HK2.out
  obtain ⟨⟨d0, d1, d2, d3⟩, e0, e1, e2, e3⟩ := blk4 HO2.out
  have HB3 := Lib.hid (below_then HB1.out hb2 (Nat.le_refl _))
  clear ho2 hb2
  go_wp2
  refine bodyPost_ret (v := .agg #[.bool u, .int .i64 r, .int .i64 g, .slice Ay ny cy]) (by simp [results, Try.results68, go_sem, a0, a1, a2, a3]) rfl ?_
  have hq : Hid (w.heap.size ≤ w.heap.size + 1 ∧ w.heap.size + 1 < w1.heap.size) := Lib.hid (by have := HS1.out; omega)
  have ht := ((((only_in (lo := w.heap.size) (hi := w1.heap.size) (g := w.heap.size + 1 + 1) w2 3 (.slice Ay ny cy) (by have := HS1.out; omega)).trans (only_in (g := w.heap.size + 1) _ 0 (.bool u) hq.out)).trans (only_in (g := w.heap.size + 1) _ 1 (.int .i64 r) hq.out)).trans (only_in (g := w.heap.size + 1) _ 2 (.int .i64 g) hq.out)).trans (only_in (g := w.heap.size + 1) _ 3 (.slice Ay ny cy) hq.out)
  exact ⟨_, rfl, (HR2.out.touch shTh ht (.inr (Nat.le_refl _))).more shTh HB1.out.size ht.size, below_touch HB3.out ht (Nat.le_refl _) (Nat.le_refl _)⟩

set_option maxHeartbeats 1000000 in
theorem toRoomS (w : World) {lo hi : Nat} {v : Value} {K : List Rm} (h : RdG 4 rmS w lo hi v K) (hK : K.length ≤ 1048576) (hF : ∀ k ∈ K, rmC k ≤ 1048576) :
    Calls Try.prog 50 #[v] w (RetG 4 rmS w K) := by
  obtain ⟨i0, hi0, hz0, hz1, hz2⟩ := info_parts infoRm
  have HR := Lib.hid h
  have HF := Lib.hid hF
  obtain ⟨A, c, rfl, hc, hm⟩ := h.form
  clear h hc hm hF
  obtain ⟨n, hn⟩ : ∃ n, n = K.length := ⟨_, rfl⟩
  have HN := Lib.hid hn
  rw [← hn] at HR hK ⊢
  clear hn
  go_enter Try.func50, Try.ntmps50
  go_wp2_with (at_make; refine wpList_make_full _ rfl _ _ 42 rfl w.heap.size 76 i0 (.agg #[.bool false, .int .i64 0, .int .i64 0, .slice none 0 0]) 4 Try.underlying42 hi0 hz0 hz1 .i64 .i64 _ _ n rfl rfl rfl rfl ?_ ?_ ?_ ?_)
  · rw [hz2]; omega
  · unfold maxLen; omega
  · exact Nat.le_refl _
  · intro w1 hown hg
    have hb1 : Below w.heap.size w w1 := (Below.refl _ _).grown hg (Nat.le_refl _) (fun k hk => by cases hk)
    have ho1 : Fill 76 4 rmS w.heap.size n K 0 w1 ∧ w.heap.size < w1.heap.size := by
      have hrow := ownR_of_make (w := w) (sz := 4) (v := .slice (some ⟨w.heap.size, 0, none⟩) n n) (z := #[.bool false, .int .i64 0, .int .i64 0, .slice none 0 0]) rfl (by omega) hown
      exact ⟨fill_new hrow, (hrow.blk (g := w.heap.size) rfl).2.1⟩
    have HO1 := Lib.hid ho1.1
    have HG1 := Lib.hid ho1.2
    have HB1 := Lib.hid hb1
    clear hown hg ho1 hb1 hi0 hz0 hz1 hz2
    go_wp2_with fail
    go_loopw [4] (fun i wr => ∃ k : Nat, k ≤ n ∧ i = .int .i64 k ∧ Hid (Fill 76 4 rmS w.heap.size n K k wr) ∧ Hid (Below w.heap.size w wr) ∧ Hid (w.heap.size < wr.heap.size))
      (fun i _ => n - (intOf i).toNat)
    case atStart => exact ⟨0, Nat.zero_le _, rfl, HO1, HB1, HG1⟩
    case round =>
      obtain ⟨k, hk, rfl, ho, hb, hg⟩ := hrel
      by_cases hlt : k < n
      · obtain ⟨s, hs⟩ : ∃ s, K[k]? = some s := ⟨_, List.getElem?_eq_getElem (by have := HN.out; omega)⟩
        have HS := Lib.hid hs
        have HSF := Lib.hid (HF.out s (List.mem_of_getElem? hs))
        obtain ⟨b, o, x, rfl, hb1, c0, c1, c2, c3, hx⟩ := rm_cells (HR.out.below shRm hb.out) hs
        have HX := Lib.hid hx
        clear hs hx
        go_wp2_with fail
        refine (toRoom _ (k := s) HX.out (by have := HSF.out; unfold rmC at this; omega) (fun z hz => by have := HSF.out; unfold rmC at this; have := one_le_tot (c := thC) hz; omega)).mono ?_
        rintro e w2 ⟨x2, rfl, hx2, hb2⟩
        obtain ⟨Ax, nx, cx, rfl⟩ := rdG_form hx2
        have HO2 := Lib.hid (ho.out.below shRm hb2)
        have HB2 := Lib.hid (below_then hb.out hb2 (Nat.le_refl _))
        have HG2 := Lib.hid (Nat.lt_of_lt_of_le hg.out hb2.size)
        have HPUT := Lib.hid (Fill.put shRm (k := s) HO2.out HS.out HN.out HG2.out (shRm.more ⟨_, rfl, hx2⟩ hg.out (Nat.le_refl _)))
        rw [setRow4] at HPUT
        clear hb2 ho hx2
        obtain ⟨f0, u0, d0⟩ := HO2.out.cells hlt 0 (by omega)
        obtain ⟨f1, u1, d1⟩ := HO2.out.cells hlt 1 (by omega)
        obtain ⟨f2, u2, d2⟩ := HO2.out.cells hlt 2 (by omega)
        obtain ⟨f3, u3, d3⟩ := HO2.out.cells hlt 3 (by omega)
        rw [Nat.add_zero] at f0 d0
        go_wp2
        go_roundw
        case rel => exact ⟨k + 1, by omega, by go_num, Lib.hid HPUT.out.1, Lib.hid (below_touch HB2.out HPUT.out.2 (Nat.le_refl _) (Nat.le_refl _)), Lib.hid (Nat.lt_of_lt_of_le HG2.out HPUT.out.2.size)⟩
        case measure => simp [intOf]; omega
      · obtain rfl : k = n := by omega
        go_wp2
        go_ret
        exact ⟨_, rfl, ho.out.done shRm HN.out rfl hg.out, hb.out⟩

set_option maxHeartbeats 1000000 in
theorem toModel (w : World) {lo hi : Nat} {v : Value} {M : Md} (h : RdM w lo hi v M) (hM : mdC M ≤ 1048576) :
    Calls Try.prog 22 #[v] w (fun e w' => ∃ v', e = .returned v' ∧ RdM w' w.heap.size w'.heap.size v' M ∧ Below w.heap.size w w') := by
  obtain ⟨x, rfl, hx⟩ := h
  obtain ⟨s, R, n⟩ := M
  dsimp only at hx ⊢
  have HX := Lib.hid (fun (w1 : World) (hb : Below w.heap.size w w1) => toRoomS w1 (hx.below shRm hb) (by unfold mdC at hM; dsimp only at hM; omega) (fun z hz => by unfold mdC at hM; dsimp only at hM; have := one_le_tot (c := rmC) hz; omega))
  obtain ⟨A, l, c, rfl⟩ := rdG_form hx
  clear hx hM
  obtain ⟨w1, hw1⟩ : ∃ w1, w1 = ((w.alloc (.cells #[.int .i64 s, .slice A l c, .int .i64 n] 39)).alloc (.cells #[.int .i64 0, .slice none 0 0, .int .i64 0] 44)).alloc (.cells #[.int .i64 s, .slice none 0 0, .int .i64 0] 44) := ⟨_, rfl⟩
  have HW1 := Lib.hid hw1
  have HB1 : Hid (Below w.heap.size w w1) := Lib.hid (by rw [hw1]; exact (((Below.refl _ _).alloc (Nat.le_refl _) _).alloc (by simp) _).alloc (by simp; omega) _)
  have HS1 : Hid (w1.heap.size = w.heap.size + 3) := Lib.hid (by rw [hw1]; simp)
  have HA1 : Hid (Blk w1 w.heap.size #[.int .i64 s, .slice A l c, .int .i64 n] 39) := Lib.hid (by
    rw [hw1]
    exact ((Blk.new w #[.int .i64 s, .slice A l c, .int .i64 n] 39).more _).more _)
  have HK1 : Hid (Blk w1 (w.heap.size + 1) #[.int .i64 0, .slice none 0 0, .int .i64 0] 44) := Lib.hid (by
    rw [hw1]
    have := (Blk.new (w.alloc (.cells #[.int .i64 s, .slice A l c, .int .i64 n] 39)) #[.int .i64 0, .slice none 0 0, .int .i64 0] 44).more (.cells #[.int .i64 s, .slice none 0 0, .int .i64 0] 44)
    simpa using this)
  have HO1 : Hid (Blk w1 (w.heap.size + 1 + 1) #[.int .i64 s, .slice none 0 0, .int .i64 0] 44) := Lib.hid (by
    rw [hw1]
    have := Blk.new ((w.alloc (.cells #[.int .i64 s, .slice A l c, .int .i64 n] 39)).alloc (.cells #[.int .i64 0, .slice none 0 0, .int .i64 0] 44)) #[.int .i64 s, .slice none 0 0, .int .i64 0] 44
    simpa using this)
  clear hw1
  go_enter Try.func22, Try.ntmps22
  go_wp2_with fail
  rw [← HW1.out]
  refine (HX.out w1 HB1.out).mono ?_
  rintro e2 w2 ⟨x2, rfl, ho2, hb2⟩
  obtain ⟨Ay, ny, cy, rfl⟩ := rdG_form ho2
  have HR2 := Lib.hid ho2
  have HB2 := Lib.hid hb2
  have HA2 := Lib.hid (HA1.out.below hb2)
  have HK2 := Lib.hid (HK1.out.below hb2)
  have HO2 := Lib.hid (HO1.out.below hb2)
  obtain ⟨⟨a0, a1, a2⟩, z0, z1, z2⟩ := blk3 HK2.out
  obtain ⟨⟨d0, d1, d2⟩, e0, e1, e2⟩ := blk3 HO2.out
  obtain ⟨⟨b0, b1, b2⟩, y0, y1, y2⟩ := blk3 HA2.out
  have HB3 := Lib.hid (below_then HB1.out hb2 (Nat.le_refl _))
  clear ho2 hb2 y0 y1 y2
  go_wp2
  refine bodyPost_ret (v := .agg #[.int .i64 s, .slice Ay ny cy, .int .i64 n]) (by simp [results, Try.results22, go_sem, a0, a1, a2]) rfl ?_
  have hq : Hid (w.heap.size ≤ w.heap.size + 1 ∧ w.heap.size + 1 < w1.heap.size) := Lib.hid (by have := HS1.out; omega)
  have hp : Hid (w.heap.size ≤ w.heap.size + 1 + 1 ∧ w.heap.size + 1 + 1 < w1.heap.size) := Lib.hid (by have := HS1.out; omega)
  have ht := ((((only_in (lo := w.heap.size) (hi := w1.heap.size) (g := w.heap.size + 1 + 1) w2 1 (.slice Ay ny cy) hp.out).trans (only_in (g := w.heap.size + 1 + 1) _ 2 (.int .i64 n) hp.out)).trans (only_in (g := w.heap.size + 1) _ 0 (.int .i64 s) hq.out)).trans (only_in (g := w.heap.size + 1) _ 1 (.slice Ay ny cy) hq.out)).trans (only_in (g := w.heap.size + 1) _ 2 (.int .i64 n) hq.out)
  exact ⟨_, rfl, ⟨_, rfl, (HR2.out.touch shRm ht (.inr (Nat.le_refl _))).more shRm HB1.out.size ht.size⟩, below_touch HB3.out ht (Nat.le_refl _) (Nat.le_refl _)⟩
end Go.Proofs.Ytmipkngikimjgaa.Mods

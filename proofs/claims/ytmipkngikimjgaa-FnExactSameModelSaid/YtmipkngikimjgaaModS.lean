/-
  The model's SameModel: two models are alike. No condition but that data are bytes.
-/
import Derived.Test.YtmipkngikimjgaaModEq
import Derived.BigQuiet
namespace Go.Proofs.Ytmipkngikimjgaa.ModS
open Go.RowKit Go.Proofs.Ytmipkngikimjgaa.Mem Go.Proofs.Ytmipkngikimjgaa.Pure Go.Proofs.Ytmipkngikimjgaa.Help Go.Proofs.Ytmipkngikimjgaa.Seq Go.Proofs.Ytmipkngikimjgaa.Ints Go.Proofs.Ytmipkngikimjgaa.Nest Go.Proofs.Ytmipkngikimjgaa.Mods
set_option linter.unusedVariables false

theorem ne_of {a b : Int} (h : ¬ a = b) : (a != b) = true := by simpa using h
theorem take_next {α : Type} {A B : List α} {k : Nat} {x : α} (h : A.take k = B.take k) (ha : A[k]? = some x) (hb : B[k]? = some x) : A.take (k + 1) = B.take (k + 1) := by
  obtain ⟨h1, e1⟩ := List.getElem?_eq_some_iff.1 ha
  obtain ⟨h2, e2⟩ := List.getElem?_eq_some_iff.1 hb
  rw [List.take_succ_eq_append_getElem h1, List.take_succ_eq_append_getElem h2, h, e1, e2]

set_option maxHeartbeats 2000000 in
theorem things (w : World) {a b : Th} {la ha lb hb : Nat} {x y x' y' : Value} (hx : RdR w la ha 1 x (intR a.f)) (hy : Rd w la ha y a.d) (hx' : RdR w lb hb 1 x' (intR b.f)) (hy' : Rd w lb hb y' b.d) (oa : ThOk a) (ob : ThOk b) :
    Calls Try.prog 49 #[.agg #[.bool a.u, .bool a.r, .int .i64 a.g, x, y], .agg #[.bool b.u, .bool b.r, .int .i64 b.g, x', y']] w (RetV w (.bool (sameTh a b))) := by
  have HXA := Lib.hid hx
  have HXB := Lib.hid hx'
  have HYA := Lib.hid hy
  have HYB := Lib.hid hy'
  obtain ⟨u, r, g, f, d⟩ := a
  obtain ⟨u', r', g', f', d'⟩ := b
  have bA : Byt d := oa
  have bB : Byt d' := ob
  dsimp only at hx hy hx' hy' HXA HXB HYA HYB ⊢
  obtain ⟨A, c, rfl, hc, hm, hzz⟩ := hx
  clear hzz
  obtain ⟨B, l, e, rfl⟩ := rd_form hy
  obtain ⟨A', c', rfl, hc', hm', hzz⟩ := hx'
  clear hzz hc' hm'
  obtain ⟨B', l', e', rfl⟩ := rd_form hy'
  rw [intR_length] at hc HXA HXB ⊢
  rw [intR_length]
  obtain ⟨n, hn⟩ : ∃ n, n = f.length := ⟨_, rfl⟩
  obtain ⟨n', hn'⟩ : ∃ n, n = f'.length := ⟨_, rfl⟩
  have HN := Lib.hid hn
  have HN' := Lib.hid hn'
  have HBB := Lib.hid (strOfNums_beq bA bB)
  obtain ⟨X, hX⟩ : ∃ X, X = sameTh ⟨u, r, g, f, d⟩ ⟨u', r', g', f', d'⟩ := ⟨_, rfl⟩
  have HX := Lib.hid hX
  rw [← hX]
  rw [← hn] at hc HXA ⊢
  rw [← hn'] at HXB ⊢
  have hnm : n ≤ 9223372036854775807 := by unfold maxLen at hm; omega
  clear hn hn' hm hc hy hy' oa ob bA bB hX
  obtain ⟨w1, hw1⟩ : ∃ w1, w1 = (w.alloc (.cells #[.bool u, .bool r, .int .i64 g, .slice A n c, .slice B l e] 79)).alloc (.cells #[.bool u', .bool r', .int .i64 g', .slice A' n' c', .slice B' l' e'] 79) := ⟨_, rfl⟩
  have HW1 := Lib.hid hw1
  have HB1 : Hid (Below w.heap.size w w1) := Lib.hid (by rw [hw1]; exact (((Below.refl _ _).alloc (Nat.le_refl _) _).alloc (by simp) _))
  have HA1 : Hid (Blk w1 w.heap.size #[.bool u, .bool r, .int .i64 g, .slice A n c, .slice B l e] 79) := Lib.hid (by
    rw [hw1]
    exact (Blk.new w _ _).more _)
  have HC1 : Hid (Blk w1 (w.heap.size + 1) #[.bool u', .bool r', .int .i64 g', .slice A' n' c', .slice B' l' e'] 79) := Lib.hid (by
    rw [hw1]
    have := Blk.new (w.alloc (.cells #[.bool u, .bool r, .int .i64 g, .slice A n c, .slice B l e] 79)) #[.bool u', .bool r', .int .i64 g', .slice A' n' c', .slice B' l' e'] 79
    simpa using this)
  have kA := (HYA.out.below HB1.out).conv (P := Try.prog) 22 5 9 Try.underlying22 Try.underlying5 Try.underlying9
  have kB := (HYB.out.below HB1.out).conv (P := Try.prog) 22 5 9 Try.underlying22 Try.underlying5 Try.underlying9
  obtain ⟨sA, hsA⟩ : ∃ s, s = strOfNums d := ⟨_, rfl⟩
  obtain ⟨sB, hsB⟩ : ∃ s, s = strOfNums d' := ⟨_, rfl⟩
  rw [← hsA, hw1] at kA
  rw [← hsB, hw1] at kB
  rw [← hsA, ← hsB] at HBB
  have HS : Hid (decide (sA = sB) = (sA.toList == sB.toList)) := Lib.hid (bytes_beq sA sB).symm
  have HW := Lib.hid (hw1 ▸ HB1.out : Below w.heap.size w ((w.alloc (.cells #[.bool u, .bool r, .int .i64 g, .slice A n c, .slice B l e] 79)).alloc (.cells #[.bool u', .bool r', .int .i64 g', .slice A' n' c', .slice B' l' e'] 79)))
  clear hsA hsB hw1
  by_cases hu : u = u'
  case neg =>
    have HF : Hid (X = false) := Lib.hid (by rw [HX.out]; unfold sameTh; simp [hu])
    rw [HF.out]
    cases u <;> cases u' <;> first | exact absurd rfl hu | clear hu
    · go_enter Try.func49, Try.ntmps49
      go_wp2
      go_ret
      exact ⟨rfl, HW.out⟩
    · go_enter Try.func49, Try.ntmps49
      go_wp2
      go_ret
      exact ⟨rfl, HW.out⟩
  subst hu
  by_cases hr : r = r'
  case neg =>
    have HF : Hid (X = false) := Lib.hid (by rw [HX.out]; unfold sameTh; simp [hr])
    rw [HF.out]
    cases r <;> cases r' <;> first | exact absurd rfl hr | clear hr
    · go_enter Try.func49, Try.ntmps49
      go_wp2
      go_ret
      exact ⟨rfl, HW.out⟩
    · go_enter Try.func49, Try.ntmps49
      go_wp2
      go_ret
      exact ⟨rfl, HW.out⟩
  subst hr
  by_cases hg : g = g'
  case neg =>
    have HF : Hid (X = false) := Lib.hid (by rw [HX.out]; unfold sameTh; simp [hg])
    rw [HF.out]
    have hg' := ne_of hg
    go_enter Try.func49, Try.ntmps49
    go_wp2
    go_ret
    exact ⟨rfl, HW.out⟩
  subst hg
  by_cases hl : n = n'
  case neg =>
    have HF : Hid (X = false) := Lib.hid (by
      rw [HX.out]
      have : ¬ f = f' := fun e => hl (by rw [HN.out, HN'.out, e])
      unfold sameTh
      simp [this])
    rw [HF.out]
    have hg' := ne_of (a := (n : Int)) (b := (n' : Int)) (by omega)
    have hg2 : ((n : Int) == (n' : Int)) = false := by rw [beq_eq_false_iff_ne]; omega
    go_enter Try.func49, Try.ntmps49
    go_wp2
    go_ret
    exact ⟨rfl, HW.out⟩
  subst hl
  by_cases hs : d = d'
  case neg =>
    have HF : Hid (X = false) := Lib.hid (by rw [HX.out]; unfold sameTh; simp [hs])
    rw [HF.out]
    have hs2 : (sA.toList == sB.toList) = false := by rw [← HS.out, HBB.out, decide_eq_false hs]
    go_enter Try.func49, Try.ntmps49
    go_wp2
    go_ret
    exact ⟨rfl, HW.out⟩
  have hs2 : (sA.toList == sB.toList) = true := by rw [← HS.out, HBB.out, decide_eq_true hs]
  have HXF : Hid (X = decide (f = f')) := Lib.hid (by rw [HX.out]; unfold sameTh; simp [hs])
  clear hs HBB HS HX HYA HYB
  go_enter Try.func49, Try.ntmps49
  go_wp2_with fail
  go_loopw [5] (fun i wr => ∃ k : Nat, k ≤ n ∧ i = .int .i64 k ∧ Hid (f.take k = f'.take k) ∧ Hid (Below w1.heap.size w1 wr)) (fun i _ => n - (intOf i).toNat)
  case atStart => exact ⟨0, Nat.zero_le _, rfl, Lib.hid rfl, Lib.hid (by rw [HW1.out]; exact Below.refl _ _)⟩
  case round =>
    obtain ⟨k, hk, rfl, ho, hb⟩ := hrel
    have c3 : wr.cell? ⟨w.heap.size, 3, none⟩ = some (.slice A n c) := (HA1.out.below hb.out).cell 3
    have d3 : wr.cell? ⟨w.heap.size + 1, 3, none⟩ = some (.slice A' n c') := (HC1.out.below hb.out).cell 3
    have HBW := Lib.hid (below_then HB1.out hb.out (Nat.le_refl _))
    by_cases hlt : k < n
    · obtain ⟨p, hp, hpp⟩ := int_at (L := f) (k := k) (by have := HN.out; omega)
      obtain ⟨q, hq, hqq⟩ := int_at (L := f') (k := k) (by have := HN'.out; omega)
      have HP := Lib.hid hp
      have HQ := Lib.hid hq
      obtain ⟨b1, o1, rfl, hb1, x0⟩ := one (HXA.out.below HBW.out) hpp
      obtain ⟨b2, o2, rfl, hb2, y0⟩ := one (HXB.out.below HBW.out) hqq
      clear hp hpp hq hqq
      by_cases hpq : p = q
      · subst hpq
        go_wp2_with fail
        go_quiet (fail)
        have HD := Lib.hid (fun q => drawn (n := q) hb.out)
        go_wp2_with fail
        go_roundw
        case rel => exact ⟨k + 1, by omega, by go_num, Lib.hid (take_next ho.out HP.out HQ.out), Lib.hid (HD.out _)⟩
        case measure => simp [intOf]; omega
      · have hpq' := ne_of hpq
        have HF : Hid (X = false) := Lib.hid (by
          rw [HXF.out, decide_eq_false_iff_not]
          intro e
          rw [e, HQ.out] at HP
          have := HP.out
          injection this with this
          exact hpq this.symm)
        go_wp2_with fail
        go_quiet (fail)
        have HD := Lib.hid (fun q => drawn (n := q) HBW.out)
        go_wp2_with fail
        go_ret
        exact ⟨by rw [HF.out]; rfl, HD.out _⟩
    · obtain rfl : k = n := by omega
      have HF : Hid (X = true) := Lib.hid (by
        rw [HXF.out, decide_eq_true_iff]
        have := ho.out
        rwa [List.take_of_length_le (by have := HN.out; omega), List.take_of_length_le (by have := HN'.out; omega)] at this)
      go_wp2
      go_ret
      exact ⟨by rw [HF.out]; rfl, HBW.out⟩

/-- What the inner loop keeps: all that was there, and the two rooms' own blocks. -/
structure Now (w0 : World) (g1 g2 : Nat) (C1 C2 : Array Value) (t : TypeId) (wr : World) : Prop where
  b : Below w0.heap.size w0 wr
  x : Blk wr g1 C1 t
  y : Blk wr g2 C2 t
theorem Now.step {w0 wr w2 : World} {g1 g2 : Nat} {C1 C2 : Array Value} {t : TypeId} (h : Hid (Now w0 g1 g2 C1 C2 t wr)) (hb : Below wr.heap.size wr w2) : Hid (Now w0 g1 g2 C1 C2 t w2) :=
  Lib.hid ⟨below_then h.out.b hb (Nat.le_refl _), h.out.x.below hb, h.out.y.below hb⟩

set_option maxHeartbeats 4000000 in
theorem sameModel (w : World) {a b : Md} {la ha lb hb : Nat} {va vb : Value} (hA : RdM w la ha va a) (hB : RdM w lb hb vb b) (oa : MdOk a) (ob : MdOk b) :
    Calls Try.prog 21 #[va, vb] w (RetV w (.bool (sameMd a b))) := by
  obtain ⟨x, rfl, hx⟩ := hA
  obtain ⟨x', rfl, hx'⟩ := hB
  have HXA := Lib.hid hx
  have HXB := Lib.hid hx'
  obtain ⟨s, K, z⟩ := a
  obtain ⟨s', K', z'⟩ := b
  dsimp only at hx hx' HXA HXB ⊢
  have HOA : Hid (∀ k ∈ K, RmOk k) := Lib.hid oa
  have HOB : Hid (∀ k ∈ K', RmOk k) := Lib.hid ob
  obtain ⟨A, c, rfl, hc, hm⟩ := hx.form
  obtain ⟨A', c', rfl, hc', hm'⟩ := hx'.form
  obtain ⟨n, hn⟩ : ∃ n, n = K.length := ⟨_, rfl⟩
  obtain ⟨n', hn'⟩ : ∃ n, n = K'.length := ⟨_, rfl⟩
  have HN := Lib.hid hn
  have HN' := Lib.hid hn'
  obtain ⟨X, hX⟩ : ∃ X, X = sameMd ⟨s, K, z⟩ ⟨s', K', z'⟩ := ⟨_, rfl⟩
  have HX := Lib.hid hX
  rw [← hX]
  rw [← hn] at hc HXA ⊢
  rw [← hn'] at hc' HXB ⊢
  have hnm : n ≤ 9223372036854775807 := by unfold maxLen at hm; omega
  clear hn hn' hm hm' hc hc' hx hx' oa ob hX
  obtain ⟨w1, hw1⟩ : ∃ w1, w1 = (w.alloc (.cells #[.int .i64 s, .slice A n c, .int .i64 z] 44)).alloc (.cells #[.int .i64 s', .slice A' n' c', .int .i64 z'] 44) := ⟨_, rfl⟩
  have HW1 := Lib.hid hw1
  have HB1 : Hid (Below w.heap.size w w1) := Lib.hid (by rw [hw1]; exact (((Below.refl _ _).alloc (Nat.le_refl _) _).alloc (by simp) _))
  have HA1 : Hid (Blk w1 w.heap.size #[.int .i64 s, .slice A n c, .int .i64 z] 44) := Lib.hid (by
    rw [hw1]
    exact (Blk.new w _ _).more _)
  have HC1 : Hid (Blk w1 (w.heap.size + 1) #[.int .i64 s', .slice A' n' c', .int .i64 z'] 44) := Lib.hid (by
    rw [hw1]
    have := Blk.new (w.alloc (.cells #[.int .i64 s, .slice A n c, .int .i64 z] 44)) #[.int .i64 s', .slice A' n' c', .int .i64 z'] 44
    simpa using this)
  have HW := Lib.hid (hw1 ▸ HB1.out : Below w.heap.size w ((w.alloc (.cells #[.int .i64 s, .slice A n c, .int .i64 z] 44)).alloc (.cells #[.int .i64 s', .slice A' n' c', .int .i64 z'] 44)))
  clear hw1
  by_cases hs : s = s'
  case neg =>
    have HF : Hid (X = false) := Lib.hid (by rw [HX.out]; unfold sameMd; simp [hs])
    rw [HF.out]
    have hg' := ne_of hs
    go_enter Try.func21, Try.ntmps21
    go_wp2
    go_ret
    exact ⟨rfl, HW.out⟩
  subst hs
  by_cases hz : z = z'
  case neg =>
    have HF : Hid (X = false) := Lib.hid (by rw [HX.out]; unfold sameMd; simp [hz])
    rw [HF.out]
    have hg' := ne_of hz
    go_enter Try.func21, Try.ntmps21
    go_wp2
    go_ret
    exact ⟨rfl, HW.out⟩
  subst hz
  by_cases hl : n = n'
  case neg =>
    have HF : Hid (X = false) := Lib.hid (by
      rw [HX.out]
      unfold sameMd
      dsimp only
      rw [allB_len (by have := HN.out; have := HN'.out; omega), Bool.and_false, Bool.and_false])
    rw [HF.out]
    have hg' := ne_of (a := (n : Int)) (b := (n' : Int)) (by omega)
    have hg2 : ((n : Int) == (n' : Int)) = false := by rw [beq_eq_false_iff_ne]; omega
    go_enter Try.func21, Try.ntmps21
    go_wp2
    go_ret
    exact ⟨rfl, HW.out⟩
  subst hl
  have HXF : Hid (X = allB sameRm K K') := Lib.hid (by rw [HX.out]; unfold sameMd; simp)
  clear HX
  go_enter Try.func21, Try.ntmps21
  go_wp2_with fail
  go_loopw [5] (fun i wr => ∃ k : Nat, k ≤ n ∧ i = .int .i64 k ∧ Hid (X = allB sameRm (K.drop k) (K'.drop k)) ∧ Hid (Below w1.heap.size w1 wr)) (fun i _ => n - (intOf i).toNat)
  case atStart => exact ⟨0, Nat.zero_le _, rfl, HXF, Lib.hid (by rw [HW1.out]; exact Below.refl _ _)⟩
  case round =>
    obtain ⟨k, hk, rfl, ho, hbo⟩ := hrel
    have c1 : wr.cell? ⟨w.heap.size, 1, none⟩ = some (.slice A n c) := (HA1.out.below hbo.out).cell 1
    have d1 : wr.cell? ⟨w.heap.size + 1, 1, none⟩ = some (.slice A' n c') := (HC1.out.below hbo.out).cell 1
    have HBW := Lib.hid (below_then HB1.out hbo.out (Nat.le_refl _))
    have g1 : w.heap.size < wr.heap.size := (HA1.out.below hbo.out).lt
    have g2 : w.heap.size + 1 < wr.heap.size := (HC1.out.below hbo.out).lt
    by_cases hlt : k < n
    · obtain ⟨p, hp⟩ : ∃ p, K[k]? = some p := ⟨_, List.getElem?_eq_getElem (by have := HN.out; omega)⟩
      obtain ⟨q, hq⟩ : ∃ q, K'[k]? = some q := ⟨_, List.getElem?_eq_getElem (by have := HN'.out; omega)⟩
      have HOP := Lib.hid (HOA.out p (List.mem_of_getElem? hp))
      have HOQ := Lib.hid (HOB.out q (List.mem_of_getElem? hq))
      have HST : Hid (X = (sameRm p q && allB sameRm (K.drop (k + 1)) (K'.drop (k + 1)))) := Lib.hid (by rw [ho.out, allB_drop hp hq])
      obtain ⟨b1, o1, y, rfl, hb1, x0, x1, x2, x3, hy⟩ := rm_cells (HXA.out.below shRm HBW.out) hp
      obtain ⟨b2, o2, y', rfl, hb2, y0, y1, y2, y3, hy'⟩ := rm_cells (HXB.out.below shRm HBW.out) hq
      obtain ⟨Ax, cx, rfl, hcx, hmx⟩ := hy.form
      obtain ⟨Ay, cy, rfl, hcy, hmy⟩ := hy'.form
      have HTA := Lib.hid hy
      have HTB := Lib.hid hy'
      obtain ⟨u, tg, by', T⟩ := p
      obtain ⟨u', tg', by2, T'⟩ := q
      dsimp only at x0 x1 x2 x3 y0 y1 y2 y3 HTA HTB hcx hcy HST
      obtain ⟨l, hl⟩ : ∃ l, l = T.length := ⟨_, rfl⟩
      obtain ⟨l', hl'⟩ : ∃ l, l = T'.length := ⟨_, rfl⟩
      have HL := Lib.hid hl
      have HL' := Lib.hid hl'
      rw [← hl] at x3 HTA hcx
      rw [← hl'] at y3 HTB hcy
      have hlm : l ≤ 9223372036854775807 := by unfold maxLen at hmx; omega
      clear hp hq hy hy' hcx hmx hcy hmy hl hl' ho
      have HBA : Hid (Below w.heap.size w ((wr.alloc (.cells #[.bool u, .int .i64 tg, .int .i64 by', .slice Ax l cx] 76)).alloc (.cells #[.bool u', .int .i64 tg', .int .i64 by2, .slice Ay l' cy] 76))) := Lib.hid ((HBW.out.alloc HBW.out.size _).alloc (by have := HBW.out.size; simp; omega) _)
      by_cases hu : u = u'
      case neg =>
        have HF : Hid (X = false) := Lib.hid (by rw [HST.out]; unfold sameRm; simp [hu])
        cases u <;> cases u' <;> first | exact absurd rfl hu | clear hu
        · go_wp2
          go_ret
          exact ⟨by rw [HF.out]; rfl, HBA.out⟩
        · go_wp2
          go_ret
          exact ⟨by rw [HF.out]; rfl, HBA.out⟩
      subst hu
      by_cases ht : tg = tg'
      case neg =>
        have HF : Hid (X = false) := Lib.hid (by rw [HST.out]; unfold sameRm; simp [ht])
        have hg' := ne_of ht
        go_wp2
        go_ret
        exact ⟨by rw [HF.out]; rfl, HBA.out⟩
      subst ht
      by_cases hbb : by' = by2
      case neg =>
        have HF : Hid (X = false) := Lib.hid (by rw [HST.out]; unfold sameRm; simp [hbb])
        have hg' := ne_of hbb
        go_wp2
        go_ret
        exact ⟨by rw [HF.out]; rfl, HBA.out⟩
      subst hbb
      by_cases hll : l = l'
      case neg =>
        have HF : Hid (X = false) := Lib.hid (by
          rw [HST.out]
          unfold sameRm
          dsimp only
          rw [allB_len (q := sameTh) (by have := HL.out; have := HL'.out; omega)]
          simp)
        have hg' := ne_of (a := (l : Int)) (b := (l' : Int)) (by omega)
        have hg2 : ((l : Int) == (l' : Int)) = false := by rw [beq_eq_false_iff_ne]; omega
        go_wp2
        go_ret
        exact ⟨by rw [HF.out]; rfl, HBA.out⟩
      subst hll
      have HSI : Hid (X = (allB sameTh T T' && allB sameRm (K.drop (k + 1)) (K'.drop (k + 1)))) := Lib.hid (by rw [HST.out]; unfold sameRm; simp)
      obtain ⟨wo, hwo⟩ : ∃ wo, wo = wr := ⟨_, rfl⟩
      subst hwo
      have HNW : Hid (Now w1 wo.heap.size (wo.heap.size + 1) #[.bool u, .int .i64 tg, .int .i64 by', .slice Ax l cx] #[.bool u, .int .i64 tg, .int .i64 by', .slice Ay l cy] 76 ((wo.alloc (.cells #[.bool u, .int .i64 tg, .int .i64 by', .slice Ax l cx] 76)).alloc (.cells #[.bool u, .int .i64 tg, .int .i64 by', .slice Ay l cy] 76))) := Lib.hid ⟨(hbo.out.alloc hbo.out.size _).alloc (by have := hbo.out.size; simp; omega) _, (Blk.new wo _ _).more _, by
        have := Blk.new (wo.alloc (.cells #[.bool u, .int .i64 tg, .int .i64 by', .slice Ax l cx] 76)) #[.bool u, .int .i64 tg, .int .i64 by', .slice Ay l cy] 76
        simpa using this⟩
      have HWR : Hid (Below wo.heap.size wo ((wo.alloc (.cells #[.bool u, .int .i64 tg, .int .i64 by', .slice Ax l cx] 76)).alloc (.cells #[.bool u, .int .i64 tg, .int .i64 by', .slice Ay l cy] 76))) := Lib.hid (((Below.refl _ _).alloc (Nat.le_refl _) _).alloc (by simp) _)
      clear HST HBA
      go_wp2_with fail
      go_loopw [8] (fun jv wx => ∃ j : Nat, j ≤ l ∧ jv = .int .i64 j ∧ Hid (X = (allB sameTh (T.drop j) (T'.drop j) && allB sameRm (K.drop (k + 1)) (K'.drop (k + 1)))) ∧ Hid (Now w1 wo.heap.size (wo.heap.size + 1) #[.bool u, .int .i64 tg, .int .i64 by', .slice Ax l cx] #[.bool u, .int .i64 tg, .int .i64 by', .slice Ay l cy] 76 wx) ∧ Hid (Below wo.heap.size wo wx)) (fun jv _ => l - (intOf jv).toNat)
      case atStart => exact ⟨0, Nat.zero_le _, rfl, HSI, HNW, HWR⟩
      case round =>
        obtain ⟨j, hj, rfl, hoj, hnw, hwx⟩ := hrel
        obtain ⟨⟨_, _, _, e3⟩, _⟩ := blk4 hnw.out.x
        obtain ⟨⟨_, _, _, f3⟩, _⟩ := blk4 hnw.out.y
        have e3l : wo.heap.size < wr.heap.size := hnw.out.x.lt
        have f3l : wo.heap.size + 1 < wr.heap.size := hnw.out.y.lt
        by_cases hjl : j < l
        · obtain ⟨t1, ht1⟩ : ∃ p, T[j]? = some p := ⟨_, List.getElem?_eq_getElem (by have := HL.out; omega)⟩
          obtain ⟨t2, ht2⟩ : ∃ p, T'[j]? = some p := ⟨_, List.getElem?_eq_getElem (by have := HL'.out; omega)⟩
          obtain ⟨b3, o3, vp, vq, rfl, hb3, p0, p1, p2, p3, p4, hp1, hp2⟩ := th_cells (HTA.out.below shTh hwx.out) ht1
          obtain ⟨b4, o4, vv, vw, rfl, hb4, q0, q1, q2, q3, q4, hq1, hq2⟩ := th_cells (HTB.out.below shTh hwx.out) ht2
          obtain ⟨Ap, np, cp, rfl⟩ := rdR_form hp1
          obtain ⟨Aq, nq, cq, rfl⟩ := rd_form hp2
          obtain ⟨Av, nv, cv, rfl⟩ := rdR_form hq1
          obtain ⟨Aw, nw, cw, rfl⟩ := rd_form hq2
          obtain ⟨v, hv⟩ : ∃ v, v = sameTh t1 t2 := ⟨_, rfl⟩
          have HSJ : Hid (X = (v && (allB sameTh (T.drop (j + 1)) (T'.drop (j + 1)) && allB sameRm (K.drop (k + 1)) (K'.drop (k + 1))))) := Lib.hid (by rw [hoj.out, allB_drop ht1 ht2, hv, Bool.and_assoc])
          have HCALL : Hid (∀ w2 : World, Below wr.heap.size wr w2 → Calls Try.prog 49 #[.agg #[.bool t1.u, .bool t1.r, .int .i64 t1.g, .slice Ap np cp, .slice Aq nq cq], .agg #[.bool t2.u, .bool t2.r, .int .i64 t2.g, .slice Av nv cv, .slice Aw nw cw]] w2 (RetV w2 (.bool v))) := Lib.hid (fun w2 hb => by
            rw [hv]
            exact things w2 (hp1.below hb) (hp2.below hb) (hq1.below hb) (hq2.below hb) (HOP.out t1 (List.mem_of_getElem? ht1)) (HOQ.out t2 (List.mem_of_getElem? ht2)))
          have HCL : Hid (∀ w2 : World, Below wr.heap.size wr w2 → w2.cell? ⟨wo.heap.size, 3, none⟩ = some (.slice (some ⟨b3, o3, none⟩) l cx) ∧ w2.cell? ⟨wo.heap.size + 1, 3, none⟩ = some (.slice (some ⟨b4, o4, none⟩) l cy) ∧ w2.cell? ⟨b3, o3 + j * 5, none⟩ = some (.bool t1.u) ∧ w2.cell? ⟨b3, o3 + j * 5 + 1, none⟩ = some (.bool t1.r) ∧ w2.cell? ⟨b3, o3 + j * 5 + 2, none⟩ = some (.int .i64 t1.g) ∧ w2.cell? ⟨b3, o3 + j * 5 + 3, none⟩ = some (.slice Ap np cp) ∧ w2.cell? ⟨b3, o3 + j * 5 + 4, none⟩ = some (.slice Aq nq cq) ∧ w2.cell? ⟨b4, o4 + j * 5, none⟩ = some (.bool t2.u) ∧ w2.cell? ⟨b4, o4 + j * 5 + 1, none⟩ = some (.bool t2.r) ∧ w2.cell? ⟨b4, o4 + j * 5 + 2, none⟩ = some (.int .i64 t2.g) ∧ w2.cell? ⟨b4, o4 + j * 5 + 3, none⟩ = some (.slice Av nv cv) ∧ w2.cell? ⟨b4, o4 + j * 5 + 4, none⟩ = some (.slice Aw nw cw) ∧ Below wr.heap.size wr w2 ∧ Hid (Now w1 wo.heap.size (wo.heap.size + 1) #[.bool u, .int .i64 tg, .int .i64 by', .slice (some ⟨b3, o3, none⟩) l cx] #[.bool u, .int .i64 tg, .int .i64 by', .slice (some ⟨b4, o4, none⟩) l cy] 76 w2)) := Lib.hid (fun w2 hb =>
            ⟨(hb.cell e3l).trans e3, (hb.cell f3l).trans f3, (hb.cell hb3).trans p0, (hb.cell hb3).trans p1, (hb.cell hb3).trans p2, (hb.cell hb3).trans p3, (hb.cell hb3).trans p4, (hb.cell hb4).trans q0, (hb.cell hb4).trans q1, (hb.cell hb4).trans q2, (hb.cell hb4).trans q3, (hb.cell hb4).trans q4, hb, Now.step hnw hb⟩)
          have huc := HCL.out wr (Below.refl _ _)
          clear ht1 ht2 hp1 hp2 hq1 hq2 hv
          go_wp2_with fail
          go_region_held3 (fun w2 => w2.cell? ⟨wo.heap.size, 3, none⟩ = some (.slice (some ⟨b3, o3, none⟩) l cx) ∧ w2.cell? ⟨wo.heap.size + 1, 3, none⟩ = some (.slice (some ⟨b4, o4, none⟩) l cy) ∧ w2.cell? ⟨b3, o3 + j * 5, none⟩ = some (.bool t1.u) ∧ w2.cell? ⟨b3, o3 + j * 5 + 1, none⟩ = some (.bool t1.r) ∧ w2.cell? ⟨b3, o3 + j * 5 + 2, none⟩ = some (.int .i64 t1.g) ∧ w2.cell? ⟨b3, o3 + j * 5 + 3, none⟩ = some (.slice Ap np cp) ∧ w2.cell? ⟨b3, o3 + j * 5 + 4, none⟩ = some (.slice Aq nq cq) ∧ w2.cell? ⟨b4, o4 + j * 5, none⟩ = some (.bool t2.u) ∧ w2.cell? ⟨b4, o4 + j * 5 + 1, none⟩ = some (.bool t2.r) ∧ w2.cell? ⟨b4, o4 + j * 5 + 2, none⟩ = some (.int .i64 t2.g) ∧ w2.cell? ⟨b4, o4 + j * 5 + 3, none⟩ = some (.slice Av nv cv) ∧ w2.cell? ⟨b4, o4 + j * 5 + 4, none⟩ = some (.slice Aw nw cw) ∧ Below wr.heap.size wr w2 ∧ Hid (Now w1 wo.heap.size (wo.heap.size + 1) #[.bool u, .int .i64 tg, .int .i64 by', .slice (some ⟨b3, o3, none⟩) l cx] #[.bool u, .int .i64 tg, .int .i64 by', .slice (some ⟨b4, o4, none⟩) l cy] 76 w2))
            (first | exact huc | (go_split_ands; exact HCL.out _ (below_then (by assumption) hb9 (Nat.le_refl _))) | (go_split_ands; exact HCL.out _ (below_then (by assumption) (below_drew _) (Nat.le_refl _))) | go_keep)
            ((go_at_call 49; go_split_ands; refine (HCALL.out _ (by assumption)).mono ?_; rintro e w9 ⟨rfl, hb9⟩))
          have HWE : Hid (Now w1 wo.heap.size (wo.heap.size + 1) #[.bool u, .int .i64 tg, .int .i64 by', .slice (some ⟨b3, o3, none⟩) l cx] #[.bool u, .int .i64 tg, .int .i64 by', .slice (some ⟨b4, o4, none⟩) l cy] 76 w9) := by (go_split_ands; assumption)
          have HBE : Hid (Below wr.heap.size wr w9) := Lib.hid (by (go_split_ands; assumption))
          cases v
          · have HF : Hid (X = false) := Lib.hid (by rw [HSJ.out]; simp)
            go_wp2
            go_ret
            exact ⟨by rw [HF.out]; rfl, below_then HB1.out HWE.out.b (Nat.le_refl _)⟩
          · have HSK : Hid (X = (allB sameTh (T.drop (j + 1)) (T'.drop (j + 1)) && allB sameRm (K.drop (k + 1)) (K'.drop (k + 1)))) := Lib.hid (by rw [HSJ.out]; simp)
            go_wp2
            go_roundw
            case rel => exact ⟨j + 1, by omega, by go_num, HSK, HWE, Lib.hid (below_then hwx.out HBE.out (Nat.le_refl _))⟩
            case measure => simp [intOf]; omega
        · obtain rfl : j = l := by omega
          have HSK : Hid (X = allB sameRm (K.drop (k + 1)) (K'.drop (k + 1))) := Lib.hid (by
            rw [hoj.out, allB_end (by have := HL.out; omega) (by have := HL'.out; omega)]
            simp)
          go_wp2
          go_roundw
          case rel => exact ⟨k + 1, by omega, by go_num, HSK, Lib.hid hnw.out.b⟩
          case measure => simp [intOf]; omega
    · obtain rfl : k = n := by omega
      have HF : Hid (X = true) := Lib.hid (by
        rw [ho.out]
        exact allB_end (by have := HN.out; omega) (by have := HN'.out; omega))
      go_wp2
      go_ret
      exact ⟨by rw [HF.out]; rfl, HBW.out⟩
end Go.Proofs.Ytmipkngikimjgaa.ModS

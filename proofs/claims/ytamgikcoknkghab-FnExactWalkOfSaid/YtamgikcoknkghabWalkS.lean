/-
  The model's WalkOf. Lengths to 1048576, numbers of 64 bits.
-/
import Derived.Test.YtamgikcoknkghabWalkOfI
import Derived.Test.YtamgikcoknkghabHeadSA
namespace Go.Proofs.Ytamgikcoknkghab.WalkS
open Go.RowKit Go.Proofs.Ytamgikcoknkghab.Mem Go.Proofs.Ytamgikcoknkghab.Pure Go.Proofs.Ytamgikcoknkghab.Help Go.Proofs.Ytamgikcoknkghab.FloorI Go.Proofs.Ytamgikcoknkghab.HeadI Go.Proofs.Ytamgikcoknkghab.Seq Go.Proofs.Ytamgikcoknkghab.WalkI
set_option linter.unusedVariables false

/-- Between two rounds: pre has come. -/
structure Sw (w : World) (L : List Int) (f t : Int) (v8 : Value) (o : Value) (pre : List Pl) (a : Int) (wr : World) : Prop where
  row : OwnR wr w.heap.size wr.heap.size 46 5 o (pre.map plC)
  none : OwnR wr w.heap.size wr.heap.size 46 5 v8 []
  list : walkS L t f = (walkS L t a).map (pre ++ ·)
  lo : 0 ≤ a
  hi : a ≤ L.length
  few : (pre.length : Int) * 6 ≤ a
  below : Below w.heap.size w wr
  apart : ∀ g, o.ownBlock = some g → v8.ownBlock ≠ some g

theorem walk_some {L : List Int} {f t : Int} {P : List Pl} (h : there L f 0 = true) (hft : f ≤ t) (hw : walkS L t f = some P) : walkB L f t = true ∧ walkP L f t = P := by
  rw [walk_spec h hft] at hw
  cases hb : walkB L f t with
  | false => rw [hb] at hw; simp at hw
  | true => rw [hb] at hw; simpa using hw
theorem walk_none {L : List Int} {f t : Int} (h : there L f 0 = true) (hft : f ≤ t) (hw : walkS L t f = none) : walkB L f t = false ∧ walkP L f t = [] := by
  rw [walk_spec h hft] at hw
  cases hb : walkB L f t with
  | false => exact ⟨rfl, walkP_no hb⟩
  | true => rw [hb] at hw; simp at hw

set_option maxRecDepth 100000 in
set_option maxHeartbeats 4000000 in
theorem walkOf_yes (w : World) {lo hi : Nat} {v : Value} {L : List Int} (h : Rd w lo hi v L) (hL : L.length ≤ 1024) (hy : Byt L) {f t : Int} (hf : 0 ≤ f) (hft : f ≤ t) (hfl : f ≤ L.length) (ht : I64 t) :
    Calls Try.prog 24 #[v, .int .i64 f, .int .i64 t] w (RetPs w (walkP L f t) (walkB L f t)) := by
  have hth : there L f 0 = true := by rw [there_iff]; omega
  have HT := Lib.hid (fun (w' : World) (hb : Below w.heap.size w w') => FloorS.l1There w' (Rd.touch h (lo' := hi) (hi' := hi) (OnlyIn.of_below hb) (.inl (Nat.le_refl _))) (by omega) (a := f) (n := 0) ⟨by omega, by omega⟩ ⟨by omega, by omega⟩)
  rw [hth] at HT
  have HTH := Lib.hid hth
  have HQ := Lib.hid (fun (w' : World) (hb : Below w.heap.size w w') (a : Int) (h0 : 0 ≤ a) (h1 : a ≤ L.length) => HeadS.headAt w' (rd_all (Rd.touch h (lo' := hi) (hi' := hi) (OnlyIn.of_below hb) (.inl (Nat.le_refl _)))) (by omega) hy (a := a) ⟨by omega, by omega⟩)
  obtain ⟨t1, t2⟩ := ht
  have hf2 : f ≤ 1024 := by omega
  have HFL := Lib.hid hfl
  have HLL := Lib.hid hL
  clear hth h hL hfl
  go_enter Try.func24, Try.ntmps24
  go_wp2_with fail
  refine (HT.out _ ((Below.refl _ _).alloc (Nat.le_refl _) _)).mono ?_
  rintro e w1 ⟨rfl, rfl⟩
  go_wp2_with fail
  have HS : Hid (Sw w L f t (.slice (some ⟨w.heap.size, 0, none⟩) 0 0) (.slice (some ⟨w.heap.size + 1, 0, none⟩) 0 0) [] f ((w.alloc (.cells #[] 46)).alloc (.cells #[] 46))) := by
    have h1 := ownR_made w w.heap.size (Nat.le_refl _) 46 5
    have h2 : OwnR ((w.alloc (.cells #[] 46)).alloc (.cells #[] 46)) w.heap.size ((w.alloc (.cells #[] 46)).alloc (.cells #[] 46)).heap.size 46 5 (.slice (some ⟨w.heap.size + 1, 0, none⟩) 0 0) [] := by
      have h3 := ownR_made (w.alloc (.cells #[] 46)) w.heap.size (by simp) 46 5
      rw [show w.heap.size + 1 = (w.alloc (.cells #[] 46)).heap.size by simp]
      exact h3
    refine Lib.hid ⟨h2, (h1.below ((Below.refl _ _).alloc (Nat.le_refl _) _)).more (Nat.le_refl _) (by simp), ?_, hf, HFL.out, by simp; omega, ((Below.refl _ _).alloc (Nat.le_refl _) _).alloc (by simp) _, fun g hg => by simp [Value.ownBlock] at hg ⊢; omega⟩
    cases walkS L t f <;> simp
  obtain ⟨v8, hv8⟩ : ∃ v8, v8 = Value.slice (some ⟨w.heap.size, 0, none⟩) 0 0 := ⟨_, rfl⟩
  rw [← hv8] at HS ⊢
  clear hv8
  go_loopw [9, 10] (fun o i wr => ∃ (pre : List Pl) (a : Int), i = .int .i64 a ∧ a ≤ 1024 ∧ 0 ≤ a ∧ Hid (Sw w L f t v8 o pre a wr)) (fun _ i _ => (L.length - intOf i).toNat)
  case atStart => exact ⟨[], f, rfl, hf2, hf, HS⟩
  case round =>
    obtain ⟨pre, a, rfl, ha2, ha, hs⟩ := hrel
    clear HS HT
    by_cases hlt : a < t
    · obtain ⟨X, hX⟩ : ∃ X, X = headAtB L a := ⟨_, rfl⟩
      have HX := Lib.hid hX
      obtain ⟨D, hD⟩ : ∃ D, D = headAtH L a := ⟨_, rfl⟩
      have HD := Lib.hid hD
      have HA := Lib.hid (HQ.out wr hs.out.below a ha hs.out.hi)
      rw [← hX, ← hD] at HA
      clear hX hD
      obtain ⟨s, o', l, r⟩ := D
      cases X
      · go_wp2_with fail
        refine HA.out.mono ?_
        rintro e w2 ⟨rfl, hb2⟩
        have HB2 := Lib.hid hb2
        clear hb2
        go_wp2
        go_ret2
        have hn := walk_none HTH.out hft (by rw [hs.out.list, walkS_no hlt HX.out.symm]; rfl)
        rw [hn.1, hn.2]
        have hb3 := HB2.out.alloc HB2.out.size (.cells #[.int .i64 s, .int .i64 o', .int .i64 l, .int .i64 r] 25)
        exact ⟨_, rfl, (hs.out.none.below hb3).more (Nat.le_refl _) hb3.size, below_then hs.out.below hb3 (Nat.le_refl _)⟩
      · have hbd := headAt_bounds HX.out.symm
        rw [← HD.out] at hbd
        obtain ⟨_, q1, q2, q3, q4⟩ := hbd
        have q1' : 6 ≤ s := q1
        have q2' : s ≤ 1000 := q2
        have HQ3 : Hid (a + s ≤ L.length) := Lib.hid q3
        clear q1 q2 q3 q4
        by_cases hov : a + s ≤ t
        · have HO : Hid (∀ w2 : World, Below wr.heap.size wr w2 → ∃ A n c, u9 = .slice A n c) := Lib.hid (fun _ _ => hs.out.row.form)
          obtain ⟨A9, n9, c9, rfl⟩ := hs.out.row.form
          go_wp2_with fail
          refine HA.out.mono ?_
          rintro e w2 ⟨rfl, hb2⟩
          have HB2 := Lib.hid hb2
          clear hb2
          have HO2 : Hid (OwnR ((w2.alloc (.cells #[.int .i64 s, .int .i64 o', .int .i64 l, .int .i64 r] 25)).alloc (.cells #[.int .i64 a, .int .i64 s, .int .i64 o', .int .i64 l, .int .i64 r] 46)) w.heap.size wr.heap.size 46 5 (.slice A9 n9 c9) (pre.map plC)) :=
            Lib.hid ((hs.out.row.below HB2.out).below (((Below.refl _ _).alloc (Nat.le_refl _) _).alloc (by simp) _))
          have HCC : Hid (∀ j u, (plC ⟨a, ⟨s, o', l, r⟩⟩)[j]? = some u → ((w2.alloc (.cells #[.int .i64 s, .int .i64 o', .int .i64 l, .int .i64 r] 25)).alloc (.cells #[.int .i64 a, .int .i64 s, .int .i64 o', .int .i64 l, .int .i64 r] 46)).cell? ⟨w2.heap.size + 1, j, none⟩ = some u) := Lib.hid (fun j u hu => by
            have h1 := (Blk.new (w2.alloc (.cells #[.int .i64 s, .int .i64 o', .int .i64 l, .int .i64 r] 25)) #[.int .i64 a, .int .i64 s, .int .i64 o', .int .i64 l, .int .i64 r] 46).cell j
            rw [World.size_alloc] at h1
            rw [h1]
            show (plC ⟨a, ⟨s, o', l, r⟩⟩).toArray[j]? = some u
            simpa using hu)
          have hl2 : pre.length ≤ 170 := by have := hs.out.few; omega
          have HWL : Hid (w.heap.size ≤ ((w2.alloc (.cells #[.int .i64 s, .int .i64 o', .int .i64 l, .int .i64 r] 25)).alloc (.cells #[.int .i64 a, .int .i64 s, .int .i64 o', .int .i64 l, .int .i64 r] 46)).heap.size) := Lib.hid (by have := hs.out.below.size; have := HB2.out.size; simp; omega)
          have HLEN := Lib.hid hl2
          clear hl2
          go_wp2_with (
            at_builtin
            refine wpList_append_r rfl _ _ _ rfl _ 40 Try.underlying40 infoPl rfl (by omega) HO2.out (w2.heap.size + 1) 1 (r := plC ⟨a, ⟨s, o', l, r⟩⟩) rfl HCC.out (by simp [plC, Value.oneCell']) (by have := HLEN.out; simp; omega) (by have := HLEN.out; simp [maxLen]; omega) HWL.out rfl rfl ?_
            intro v' w3 hO3 hT3 hG3 hA3
            have HO3 := Lib.hid hO3; have HT3 := Lib.hid hT3; have HG3 := Lib.hid hG3; have HA3 := Lib.hid hA3
            have kD : Blk w3 w2.heap.size #[.int .i64 s, .int .i64 o', .int .i64 l, .int .i64 r] 25 := (((Blk.new w2 _ _).more _).touch hT3 (.inr (by have := HB2.out.size; omega)))
            have d0 := kD.cell 0
            clear hO3 hT3 hG3 hA3 kD)
          have hb3 : Below wr.heap.size wr ((w2.alloc (.cells #[.int .i64 s, .int .i64 o', .int .i64 l, .int .i64 r] 25)).alloc (.cells #[.int .i64 a, .int .i64 s, .int .i64 o', .int .i64 l, .int .i64 r] 46)) := (HB2.out.alloc HB2.out.size _).alloc (by have := HB2.out.size; simp; omega) _
          have hap := hs.out.apart
          refine ⟨⟨pre ++ [⟨a, ⟨s, o', l, r⟩⟩], a + s, rfl, by have := HQ3.out; have := HLL.out; omega, by omega, Lib.hid ⟨?_, ?_, ?_, by omega, HQ3.out, by have := hs.out.few; simp; omega, ?_, fun g hg => ?_⟩⟩, by simp [intOf]; have := HQ3.out; omega⟩
          · rw [List.map_append]
            exact HO3.out
          · refine ((hs.out.none.below hb3).kept (fun g hg => HG3.out.block g ?_ (fun e => hap g e.symm hg))).more (Nat.le_refl _) (Nat.le_trans hb3.size HG3.out.size)
            exact Nat.lt_of_lt_of_le (hs.out.none.blk hg).2.2.1 hb3.size
          · rw [hs.out.list, walkS_step hlt HX.out.symm (by rw [← HD.out]; exact hov), ← HD.out]
            show Option.map _ (Option.map _ (walkS L t (a + s))) = _
            cases walkS L t (a + s) <;> simp
          · exact below_touch (below_then hs.out.below hb3 (Nat.le_refl _)) HT3.out (Nat.le_refl _) (Nat.le_refl _)
          · rcases HA3.out with e | e
            · rw [e] at hg
              exact hap g hg
            · rw [e] at hg
              injection hg with hg
              intro hc
              have := (hs.out.none.blk hc).2.2.1
              have := hb3.size
              omega
        · go_wp2_with fail
          refine HA.out.mono ?_
          rintro e w2 ⟨rfl, hb2⟩
          have HB2 := Lib.hid hb2
          clear hb2
          go_wp2
          go_ret2
          have hn := walk_none HTH.out hft (by rw [hs.out.list, walkS_over hlt HX.out.symm (by rw [← HD.out]; show ¬ a + s ≤ t; omega)]; rfl)
          rw [hn.1, hn.2]
          have hb3 := HB2.out.alloc HB2.out.size (.cells #[.int .i64 s, .int .i64 o', .int .i64 l, .int .i64 r] 25)
          exact ⟨_, rfl, (hs.out.none.below hb3).more (Nat.le_refl _) hb3.size, below_then hs.out.below hb3 (Nat.le_refl _)⟩
    · have hw : walkS L t f = some pre := by
        rw [hs.out.list, walkS_end hlt]
        simp
      have hn := walk_some HTH.out hft hw
      have HN := Lib.hid hn
      clear hn hw
      go_wp2
      go_ret2
      rw [HN.out.1, HN.out.2]
      exact ⟨_, rfl, hs.out.row, hs.out.below⟩

set_option maxHeartbeats 1000000 in
theorem walkOf_no (w : World) {lo hi : Nat} {v : Value} {L : List Int} (h : Rd w lo hi v L) (hL : L.length ≤ 1048576) {f t : Int} (hf : I64 f) (ht : I64 t) (hb : there L f 0 = false ∨ t < f) :
    Calls Try.prog 24 #[v, .int .i64 f, .int .i64 t] w (RetPs w (walkP L f t) (walkB L f t)) := by
  have HT := Lib.hid (fun (w' : World) (hb : Below w.heap.size w w') => FloorS.l1There w' (Rd.touch h (lo' := hi) (hi' := hi) (OnlyIn.of_below hb) (.inl (Nat.le_refl _))) hL (a := f) (n := 0) hf ⟨by omega, by omega⟩)
  have hn := walkB_none hb
  have HB := Lib.hid hb
  rw [walkP_no hn, hn]
  obtain ⟨X, hX⟩ : ∃ X, X = there L f 0 := ⟨_, rfl⟩
  rw [← hX] at HT HB
  clear hX hn h hb
  cases X
  · go_enter Try.func24, Try.ntmps24
    go_wp2_with fail
    refine (HT.out _ ((Below.refl _ _).alloc (Nat.le_refl _) _)).mono ?_
    rintro e w1 ⟨rfl, rfl⟩
    go_wp2
    go_ret2
    exact ⟨_, rfl, ownR_made w w.heap.size (Nat.le_refl _) 46 5, (Below.refl _ _).alloc (Nat.le_refl _) _⟩
  · have hlt : t < f := by
      rcases HB.out with h | h
      · cases h
      · exact h
    go_enter Try.func24, Try.ntmps24
    go_wp2_with fail
    refine (HT.out _ ((Below.refl _ _).alloc (Nat.le_refl _) _)).mono ?_
    rintro e w1 ⟨rfl, rfl⟩
    go_wp2
    go_ret2
    exact ⟨_, rfl, ownR_made w w.heap.size (Nat.le_refl _) 46 5, (Below.refl _ _).alloc (Nat.le_refl _) _⟩

theorem walkOf (w : World) {lo hi : Nat} {v : Value} {L : List Int} (h : Rd w lo hi v L) (hL : L.length ≤ 1048576) (hy : Byt L) {f t : Int} (hf : I64 f) (ht : I64 t) :
    Calls Try.prog 24 #[v, .int .i64 f, .int .i64 t] w (RetPs w (walkP L f t) (walkB L f t)) := by
  cases hs : there L f 0 with
  | false => exact walkOf_no w h hL hf ht (.inl hs)
  | true =>
    by_cases hft : f ≤ t
    · have h1 := there_iff.1 hs
      exact walkOf_yes w h (by omega) hy (by omega) hft (by omega) ht
    · exact walkOf_no w h hL hf ht (.inr (by omega))
end Go.Proofs.Ytamgikcoknkghab.WalkS

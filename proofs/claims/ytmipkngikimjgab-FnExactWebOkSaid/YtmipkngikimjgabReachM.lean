/-
  The program's own chapter 6: its marks. Webs of at most 1048576 knots and references.
-/
import Derived.Test.YtmipkngikimjgabMarks
import Derived.Test.YtmipkngikimjgabReachH
namespace Go.Proofs.Ytmipkngikimjgab.ReachM
open Go.RowKit Go.Maps Go.Proofs.Ytmipkngikimjgab.Mem Go.Proofs.Ytmipkngikimjgab.Pure Go.Proofs.Ytmipkngikimjgab.Help Go.Proofs.Ytmipkngikimjgab.FloorI Go.Proofs.Ytmipkngikimjgab.Seq Go.Proofs.Ytmipkngikimjgab.Ints Go.Proofs.Ytmipkngikimjgab.Webs Go.Proofs.Ytmipkngikimjgab.ReachT Go.Proofs.Ytmipkngikimjgab.Marks
set_option linter.unusedVariables false

set_option maxHeartbeats 400000 in
theorem has (w : World) {b n x m : Nat} {M : List Nat} (h : MO w b n M) (h3 : Three M) (hx : M[x]? = some m) :
    Calls Try.prog 33 #[.map (some b), .int .i64 x] w (fun e w' => e = .returned (.bool (decide (m ≠ 0))) ∧ w = w') := by
  have hm := h3 m (List.mem_of_getElem? hx)
  match m, hm with
  | 0, _ =>
    have l1 := h.look hx true (r := false) rfl
    have l2 := h.look hx false (r := false) rfl
    clear hx h3 h
    go_enter Try.func33, Try.ntmps33
    go_wp2
    go_ret
    exact ⟨rfl, rfl⟩
  | 1, _ =>
    have l1 := h.look hx true (r := true) rfl
    clear hx h3 h
    go_enter Try.func33, Try.ntmps33
    go_wp2
    go_ret
    exact ⟨rfl, rfl⟩
  | 2, _ =>
    have l1 := h.look hx true (r := false) rfl
    have l2 := h.look hx false (r := true) rfl
    clear hx h3 h
    go_enter Try.func33, Try.ntmps33
    go_wp2
    go_ret
    exact ⟨rfl, rfl⟩

/-- Nothing comes back; the map bears the marks M, and nothing else has turned. -/
def RetM (w : World) (b : Nat) (M : List Nat) (e : Ending) (w' : World) : Prop := e = .returned (.tuple #[]) ∧ MO w' b M.sum M ∧ w.grownBy w' (some b)

set_option maxHeartbeats 400000 in
theorem put (w : World) {b x : Nat} {M : List Nat} (h : MO w b M.sum M) (h3 : Three M) (hx : x < M.length) :
    Calls Try.prog 46 #[.map (some b), .int .i64 x] w (RetM w b (putM M x)) := by
  obtain ⟨m, hm⟩ : ∃ m, M[x]? = some m := ⟨_, List.getElem?_eq_getElem hx⟩
  have HH := Lib.hid (has w h h3 hm)
  have HM := Lib.hid h
  have HS := Lib.hid (Nat.le_trans h3.sum (by have := h.le; omega : 2 * M.length ≤ 32))
  have HX := Lib.hid hm
  by_cases h0 : m = 0
  · subst h0
    have HP : Hid (putM M x = M.set x 1) := Lib.hid (if_pos HX.out)
    obtain ⟨D, ho, hat⟩ := h.own
    have HAT := Lib.hid hat
    have hk := hkey (h.i64 hm) true
    have HD := Lib.hid ho.isMap
    have HSUM : Hid ((M.set x 1).sum = M.sum + 1) := Lib.hid (sum_set hm 1)
    obtain ⟨s, hs⟩ : ∃ s, s = M.sum := ⟨_, rfl⟩
    rw [← hs] at HM HS HSUM ho
    rw [HP.out]
    clear hat h3 hm hx h HP hs
    go_enter Try.func46, Try.ntmps46
    go_wp2_with fail
    refine HH.out.mono ?_
    rintro e w1 ⟨rfl, rfl⟩
    go_wp2_with (
      at_mapUpdate
      refine wpList_mapUpdate_own _ rfl _ _ _ 51 rfl 69 4 lawK Try.underlying51 _ b s D rfl ho (by have := HS.out; unfold maxLen; omega) _ _ _ rfl rfl hk _ [] (plainElem_bool Try.underlying4 true) ?_
      intro w1 ho1 hg1)
    go_end0
    exact ⟨rfl, by rw [HSUM.out]; exact HM.out.stored HX.out HAT.out HD.out true rfl ho1, hg1⟩
  · have HP : Hid (putM M x = M) := Lib.hid (if_neg (fun e => h0 (by rw [HX.out] at e; injection e)))
    rw [HP.out]
    rw [decide_eq_true (show m ≠ 0 from h0)] at HH
    clear h3 hm hx h HX HP HS
    go_enter Try.func46, Try.ntmps46
    go_wp2_with fail
    refine HH.out.mono ?_
    rintro e w1 ⟨rfl, rfl⟩
    go_wp2
    go_end0
    exact ⟨rfl, HM.out, World.grownBy.refl _ _⟩

theorem only_of_grown {w w' : World} {b : Nat} (h : w.grownBy w' (some b)) : OnlyIn b (b + 1) w w' :=
  ⟨h.os, h.tape, h.output, h.size, fun k hk hn => h.block k hk (fun e => hn (by injection e; omega))⟩

/-- The first fresh slot, or none. -/
def RetF (w : World) (M : List Nat) (e : Ending) (w' : World) : Prop :=
  ∃ x : Nat, ∃ is : Bool, e = .returned (.tuple #[.int .i64 x, .bool is]) ∧ w = w' ∧ (is = true → M[x]? = some 1) ∧ (is = false → NoneTo M M.length)

set_option maxHeartbeats 400000 in
theorem freshIn (w : World) {b k n c : Nat} {A : Option Addr} {M : List Nat} (h : MO w b k M) (h3 : Three M) (hn : n = M.length) :
    Calls Try.prog 47 #[.map (some b), .slice A n c] w (RetF w M) := by
  have HM := Lib.hid h
  have H3 := Lib.hid h3
  have hl := h.le
  have HN := Lib.hid hn
  rw [← hn] at hl
  clear h h3 hn
  go_enter Try.func47, Try.ntmps47
  go_wp2_with fail
  go_loopw [9] (fun iv wr => ∃ k : Nat, k ≤ n ∧ iv = .int .i64 k ∧ w = wr ∧ Hid (NoneTo M k)) (fun iv _ => n - (intOf iv).toNat)
  case atStart => exact ⟨0, Nat.zero_le _, rfl, rfl, Lib.hid (fun j hj => absurd hj (Nat.not_lt_zero _))⟩
  case round =>
    obtain ⟨k, hk, rfl, rfl, ho⟩ := hrel
    by_cases hkn : k < n
    · obtain ⟨m, hm⟩ : ∃ m, M[k]? = some m := ⟨_, List.getElem?_eq_getElem (by have := HN.out; omega)⟩
      have HX := Lib.hid hm
      by_cases h1 : m = 1
      · have l1 := HM.out.look hm true (r := true) (by rw [h1]; rfl)
        have HX1 : Hid (M[k]? = some 1) := Lib.hid (by rw [hm, h1])
        clear hm h1 HX
        go_wp2
        go_ret2
        exact ⟨k, true, rfl, rfl, fun _ => HX1.out, fun h => by cases h⟩
      · have l1 := HM.out.look hm true (r := false) (by simp [h1])
        clear hm
        go_wp2
        go_roundw
        case rel => exact ⟨k + 1, by omega, by go_num, by first | rfl | trivial, Lib.hid (ho.out.step (by rw [HX.out]; intro e; injection e with e; exact h1 e))⟩
        case measure => simp [intOf]; omega
    · obtain rfl : k = n := by omega
      go_wp2
      go_ret2
      exact ⟨0, false, rfl, rfl, fun h => absurd h (by simp), fun _ => by rw [← HN.out]; exact ho.out⟩

set_option maxHeartbeats 400000 in
theorem follow (w : World) {b x lo hi : Nat} {v : Value} {f : List Int} {M : List Nat} (h : MO w b M.sum M) (h3 : Three M) (hx : M[x]? = some 1) (hv : RdR w lo hi 1 v (intR f)) (hb : hi ≤ b) (hf : f.length ≤ 6)
    (hy : ∀ y ∈ f, -1 ≤ y ∧ (0 ≤ y → y.toNat < M.length)) :
    Calls Try.prog 48 #[.map (some b), .int .i64 x, v] w (RetM w b (followM M x f)) := by
  have HR := Lib.hid hv
  obtain ⟨A, c, rfl, hc, hm, hz⟩ := hv
  clear hc hm hz
  rw [intR_length] at HR ⊢
  have HX := Lib.hid hx
  have HM := Lib.hid h
  have HY := Lib.hid hy
  have H3 := Lib.hid h3
  have HS := Lib.hid (Nat.le_trans h3.sum (by have := h.le; omega : 2 * M.length ≤ 32))
  have HB := Lib.hid hb
  obtain ⟨D, ho, hat⟩ := h.own
  have HAT := Lib.hid hat
  have HD := Lib.hid ho.isMap
  have hk1 := hkey (h.i64 hx) true
  have hk0 := hkey (h.i64 hx) false
  have HSUM : Hid ((M.set x 2).sum = M.sum + 1) := Lib.hid (by have := sum_set hx 2; omega)
  obtain ⟨s, hs⟩ : ∃ s, s = M.sum := ⟨_, rfl⟩
  rw [← hs] at HM HS HSUM ho
  obtain ⟨l, hl⟩ : ∃ l, l = f.length := ⟨_, rfl⟩
  have HL := Lib.hid hl
  rw [← hl] at HR hf ⊢
  clear hat h3 hx h hy hb hs hl
  go_enter Try.func48, Try.ntmps48
  go_wp2_with (
    at_delete
    refine wpList_delete_own _ rfl _ _ 51 69 rfl 4 lawK Try.underlying51 _ b s D rfl ho _ _ rfl hk1 ?_)
  intro w1 ho1 ht1
  have HM1 := Lib.hid (HM.out.dropped HX.out HAT.out ho1)
  have HG1 := Lib.hid ht1.grown
  clear ho1 ht1 ho HAT HD hk1
  have HX0 : Hid ((M.set x 0)[x]? = some 0) := Lib.hid (List.getElem?_set_self (List.getElem?_eq_some_iff.1 HX.out).1)
  obtain ⟨D1, ho1, hat1⟩ := HM1.out.own
  have HAT1 := Lib.hid hat1
  have HD1 := Lib.hid ho1.isMap
  clear hat1
  go_wp2_with (
    at_mapUpdate
    refine wpList_mapUpdate_own _ rfl _ _ _ 51 rfl 69 4 lawK Try.underlying51 _ b s D1 rfl ho1 (by have := HS.out; unfold maxLen; omega) _ _ _ rfl rfl hk0 _ [] (plainElem_bool Try.underlying4 true) ?_)
  intro w2 ho2 hg2
  have HM2 : Hid (MO w2 b (M.set x 2).sum (putsM (M.set x 2) f 0)) := Lib.hid (by
    have := HM1.out.stored HX0.out HAT1.out HD1.out false rfl ho2
    rw [List.set_set] at this
    rw [HSUM.out]
    exact this)
  have HG2 := Lib.hid (HG1.out.trans hg2)
  clear ho2 hg2 ho1 HAT1 HD1 hk0 HX0 HM1 HG1
  have HF : Hid (followM M x f = putsM (M.set x 2) f l) := Lib.hid (by unfold followM; rw [HL.out])
  have HT2 : Hid (Three (M.set x 2)) := Lib.hid (H3.out.set x (by omega))
  have HLN : Hid ((M.set x 2).length = M.length) := Lib.hid (by rw [List.length_set])
  obtain ⟨N, hN⟩ : ∃ N, N = M.set x 2 := ⟨_, rfl⟩
  rw [← hN] at HM2 HF HT2 HLN
  clear hN HSUM HX HS HM H3
  have HM3 : Hid (MO w2 b (putsM N f 0).sum (putsM N f 0)) := HM2
  clear HM2
  go_wp2_with fail
  go_loopw [16] (fun jv wr => ∃ j : Nat, j ≤ l ∧ jv = .int .i64 j ∧ Hid (MO wr b (putsM N f j).sum (putsM N f j)) ∧ Hid (w.grownBy wr (some b))) (fun jv _ => l - (intOf jv).toNat)
  case atStart => exact ⟨0, Nat.zero_le _, rfl, HM3, HG2⟩
  case round =>
    obtain ⟨j, hj, rfl, ho, hg⟩ := hrel
    clear HM3 HG2
    by_cases hjl : j < l
    · obtain ⟨y, hy, hyp⟩ := int_at (L := f) (k := j) (by have := HL.out; omega)
      have HYJ := Lib.hid hy
      have HYB := Lib.hid (HY.out y (List.mem_of_getElem? hy))
      have HRR : Hid (RdR wr lo hi 1 (.slice A l c) (intR f)) := Lib.hid (HR.out.touch (lo' := b) (hi' := b + 1) (only_of_grown hg.out) (.inl HB.out))
      obtain ⟨bx, ox, hAx, _, z0⟩ := one HRR.out hyp
      subst hAx
      clear hy hyp HRR
      by_cases hy1 : y = -1
      · subst hy1
        have HNX : Hid (putsM N f (j + 1) = putsM N f j) := Lib.hid (putsM_no HYJ.out (by omega))
        go_wp2
        go_roundw
        case rel => exact ⟨j + 1, by omega, by go_num, by rw [HNX.out]; exact ho, hg⟩
        case measure => simp [intOf]; omega
      · obtain ⟨yi, rfl⟩ : ∃ yi : Nat, y = (yi : Int) := ⟨y.toNat, by have := HYB.out.1; omega⟩
        have HNX : Hid (putsM N f (j + 1) = putM (putsM N f j) yi) := Lib.hid (putsM_yes HYJ.out)
        have HC := Lib.hid (put wr ho.out (HT2.out.puts f j) (x := yi) (by rw [putsM_length, HLN.out]; have := HYB.out.2 (by omega); simpa using this))
        go_wp2_with fail
        refine HC.out.mono ?_
        rintro e w3 ⟨rfl, hm3, hg3⟩
        have HM4 := Lib.hid hm3
        have HG4 := Lib.hid (hg.out.trans hg3)
        clear hm3 hg3
        go_wp2
        go_roundw
        case rel => exact ⟨j + 1, by omega, by go_num, by rw [HNX.out]; exact HM4, HG4⟩
        case measure => simp [intOf]; omega
    · obtain rfl : j = l := by omega
      go_wp2
      go_end0
      exact ⟨rfl, by rw [HF.out]; exact ho.out, hg.out⟩

/-- The map comes back; its marked slots are those that are reached. -/
def RetMk (w : World) (K : List Kn) (e : Ending) (w' : World) : Prop :=
  ∃ b M, e = .returned (.map (some b)) ∧ MO w' b M.sum M ∧ Three M ∧ M.length = K.length ∧ markedB M = reachL K ∧ Below w.heap.size w w'
/-- The marks so far, in a block of the call's own. -/
structure MB (w : World) (b : Nat) (M : List Nat) (wr : World) : Prop where
  mo : MO wr b M.sum M
  lo : w.heap.size ≤ b
  below : Below w.heap.size w wr
theorem MB.turn {w wr w2 : World} {b : Nat} {M M2 : List Nat} (h : MB w b M wr) (hm : MO w2 b M2.sum M2) (hg : wr.grownBy w2 (some b)) : MB w b M2 w2 :=
  ⟨hm, h.lo, below_touch h.below (only_of_grown hg) h.lo (Nat.le_refl _)⟩
theorem MB.next {w wr w2 : World} {b : Nat} {M : List Nat} (h : MB w b M wr) (hb : Below wr.heap.size wr w2) : MB w b M w2 :=
  ⟨h.mo.below hb, h.lo, below_then h.below hb (Nat.le_refl _)⟩

set_option maxHeartbeats 4000000 in
theorem marksOf (w : World) {lo hi : Nat} {v : Value} {K : List Kn} (h : RdK w lo hi v K) (hW : webB K = true) :
    Calls Try.prog 32 #[v] w (RetMk w K) := by
  have HR := Lib.hid h.all
  have HP := Lib.hid (web_parts hW)
  have HIN := Lib.hid (web_inside hW)
  obtain ⟨A, c, rfl, hc, hm⟩ := h.form
  clear h hc hm hW
  obtain ⟨n, hn⟩ : ∃ n, n = K.length := ⟨_, rfl⟩
  have HN := Lib.hid hn
  have hn16 : n ≤ 16 := by rw [hn]; exact HP.out.1
  rw [← hn] at HR ⊢
  clear hn
  have HM0 : Hid (MB w w.heap.size (rootsM K 0) (w.alloc (.map #[] 0))) := Lib.hid ⟨by
    have := MO.made w (n := K.length) (by have := HN.out; omega)
    unfold rootsM
    rw [List.sum_replicate_nat, Nat.mul_zero]
    exact this, Nat.le_refl _, (Below.refl _ _).alloc (Nat.le_refl _) _⟩
  have hmm := @run_makeMap Try.prog
  go_enter Try.func32, Try.ntmps32
  go_wp2_with fail
  go_loopw [11] (fun iv wr => ∃ i : Nat, i ≤ n ∧ iv = .int .i64 i ∧ Hid (MB w w.heap.size (rootsM K i) wr)) (fun iv _ => n - (intOf iv).toNat)
  case atStart => exact ⟨0, Nat.zero_le _, rfl, HM0⟩
  case round =>
    obtain ⟨i, hi, rfl, ho⟩ := hrel
    clear HM0
    by_cases hik : i < n
    · obtain ⟨s, hs⟩ : ∃ s, K[i]? = some s := ⟨_, List.getElem?_eq_getElem (by have := HN.out; omega)⟩
      have HS := Lib.hid hs
      obtain ⟨b, o, x, rfl, hb1, c0, c1, c2, hx⟩ := HR.out.spot hs
      have d0 := (ho.out.below.cell (p := ⟨b, o + i * 3, none⟩) hb1).trans c0
      have d1 := (ho.out.below.cell (p := ⟨b, o + i * 3 + 1, none⟩) hb1).trans c1
      have d2 := (ho.out.below.cell (p := ⟨b, o + i * 3 + 2, none⟩) hb1).trans c2
      obtain ⟨Ax, l, cx, rfl⟩ : ∃ Ax l cx, x = .slice Ax l cx := by
        obtain ⟨Ax, cx, e, _⟩ := hx
        exact ⟨_, _, _, e⟩
      obtain ⟨t, r, f⟩ := s
      dsimp only at d0 d1 d2
      clear hs hx c0 c1 c2 hb1
      have HMA : Hid (MB w w.heap.size (rootsM K i) (wr.alloc (.cells #[.bool t, .bool r, .slice Ax l cx] 36))) := Lib.hid (ho.out.next ((Below.refl _ _).alloc (Nat.le_refl _) _))
      cases r
      · have HNX : Hid (rootsM K (i + 1) = rootsM K i) := Lib.hid (rootsM_no HS.out (by simp))
        go_wp2
        go_roundw
        case rel => exact ⟨i + 1, by omega, by go_num, by rw [HNX.out]; exact HMA⟩
        case measure => simp [intOf]; omega
      · have HNX : Hid (rootsM K (i + 1) = putM (rootsM K i) i) := Lib.hid (rootsM_yes HS.out rfl)
        have HC := Lib.hid (put _ HMA.out.mo (three_roots K i) (x := i) (by rw [rootsM_length]; have := HN.out; omega))
        go_wp2_with fail
        refine HC.out.mono ?_
        rintro e w3 ⟨rfl, hm3, hg3⟩
        have HM4 := Lib.hid (HMA.out.turn hm3 hg3)
        clear hm3 hg3
        go_wp2
        go_roundw
        case rel => exact ⟨i + 1, by omega, by go_num, by rw [HNX.out]; exact HM4⟩
        case measure => simp [intOf]; omega
    · obtain rfl : i = n := by omega
      have HG : Hid (GoodM K (rootsM K i)) := Lib.hid (by have := good_roots K; rw [← HN.out] at this; exact this)
      obtain ⟨M, hM⟩ : ∃ M, M = rootsM K i := ⟨_, rfl⟩
      rw [← hM] at HG ho
      clear hM
      have HFR := Lib.hid (freshIn wr (n := i) (A := A) (c := c) ho.out.mo HG.out.three (by rw [HG.out.len]; exact HN.out))
      go_wp2_with fail
      refine HFR.out.mono ?_
      rintro e w1 ⟨x, is, rfl, rfl, hx1, hx2⟩
      have HX1 := Lib.hid hx1
      have HX2 := Lib.hid hx2
      clear hx1 hx2 hmm
      go_wp2_with fail
      go_loopw [6, 7] (fun sv bv wr => ∃ M, ∃ x : Nat, ∃ is : Bool, sv = .int .i64 x ∧ bv = .bool is ∧ Hid (GoodM K M) ∧ Hid (MB w w.heap.size M wr) ∧ Hid (is = true → M[x]? = some 1) ∧ Hid (is = false → NoneTo M M.length)) (fun _ _ wr => 2 * i - (marksAt Try.prog 51 wr w.heap.size i).sum)
      case atStart => exact ⟨M, x, is, rfl, rfl, HG, ho, HX1, HX2⟩
      case round =>
        obtain ⟨M, x, is, rfl, rfl, hg, ho, hx1, hx2⟩ := hrel
        clear HG HX1 HX2
        cases is
        · have HE : Hid (markedB M = reachL K) := Lib.hid (hg.out.end HIN.out (hx2.out rfl))
          go_wp2
          go_ret
          exact ⟨_, M, rfl, ho.out.mo, hg.out.three, hg.out.len, HE.out, ho.out.below⟩
        · have HX := Lib.hid (hx1.out rfl)
          clear hx1 hx2
          have hxl : x < i := by have h1 := (List.getElem?_eq_some_iff.1 HX.out).1; rw [hg.out.len, ← HN.out] at h1; exact h1
          obtain ⟨s, hs⟩ : ∃ s, K[x]? = some s := ⟨_, List.getElem?_eq_getElem (by have := HN.out; omega)⟩
          have HS := Lib.hid hs
          obtain ⟨b, o, y, rfl, hb1, c0, c1, c2, hy⟩ := HR.out.spot hs
          have d2 := (ho.out.below.cell (p := ⟨b, o + x * 3 + 2, none⟩) hb1).trans c2
          have HYR := Lib.hid (hy.below ho.out.below)
          have HPK := Lib.hid (HP.out.2 x s hs)
          obtain ⟨t, r, f⟩ := s
          dsimp only at d2 HYR HPK
          clear hs hy c0 c1 c2 hb1
          have HC := Lib.hid (follow _ ho.out.mo hg.out.three HX.out HYR.out ho.out.lo HPK.out.1 (fun z hz => by
            have h1 := HPK.out.2.2 z hz
            refine ⟨h1.1, fun h0 => ?_⟩
            rw [hg.out.len]
            have := h1.2.1
            omega))
          have HG3 : Hid (GoodM K (followM M x f)) := Lib.hid (hg.out.follow HIN.out HX.out HS.out)
          have HS1 := Lib.hid (followM_sum HX.out f)
          go_wp2_with fail
          refine HC.out.mono ?_
          rintro e w3 ⟨rfl, hm3, hg3⟩
          have HM4 := Lib.hid (ho.out.turn hm3 hg3)
          clear hm3 hg3 HC
          have HFR2 := Lib.hid (freshIn w3 (n := i) (A := some ⟨b, o, none⟩) (c := c) HM4.out.mo HG3.out.three (by rw [HG3.out.len]; exact HN.out))
          go_wp2_with fail
          refine HFR2.out.mono ?_
          rintro e w4 ⟨x4, is4, rfl, rfl, hx1, hx2⟩
          have HX1 := Lib.hid hx1
          have HX2 := Lib.hid hx2
          clear hx1 hx2 HFR2
          have HR1 : Hid (marksAt Try.prog 51 wr w.heap.size i = M) := Lib.hid (ho.out.mo.read hg.out.three (by rw [hg.out.len]; exact HN.out.symm))
          have HR2 : Hid (marksAt Try.prog 51 w3 w.heap.size i = followM M x f) := Lib.hid (HM4.out.mo.read HG3.out.three (by rw [HG3.out.len]; exact HN.out.symm))
          have HS3 : Hid ((followM M x f).sum ≤ 2 * i) := Lib.hid (by have := HG3.out.three.sum; rw [HG3.out.len, ← HN.out] at this; exact this)
          go_wp2
          go_roundw
          case rel => exact ⟨_, x4, is4, rfl, rfl, HG3, HM4, HX1, HX2⟩
          case measure =>
            rw [HR1.out, HR2.out]
            have h1 := HS1.out
            have h2 := HS3.out
            omega
end Go.Proofs.Ytmipkngikimjgab.ReachM
